/- What the rest of the document's own bytes are: Bool, Int8, Uint32, Float, Buffer and Text of lagoonref01; and what spoil of the statements does. -/
import Derived.Test.YtobnggkgpenmfaaGreatDoorRefInt64J
import Derived.Test.YtobnggkgpenmfaaGreatDoorLeafSumJ
import Derived.Test.YtobnggkgpenmfaaGreatDoorDblJ
import Derived.Maps.AppendAt
import Derived.Shelf.Strconv.Itoa0
import Derived.Shelf.Strconv.Itoa1
import Derived.Shelf.LaysM
import Derived.Shelf.Strconv.Itoa2
import Derived.Shelf.Strconv.Itoa3
import Derived.Ground.SlbCloneProg
import Derived.Shelf.Bytes.SlClone
import Derived.Test.YtobnggkgpenmfaaGreatDoorProg
import Derived.Test.YtobnggkgpenmfaaGreatDoorRqLJ
namespace Go.Proofs.YtobnggkgpenmfaaGreatDoor
open Go.RowKit
set_option maxRecDepth 8000

theorem owns_new (w : World) (cs : Array Value) (ys : List Int) (hl : ys.length ≤ 4096) (h : cs.toList = ys.map (Value.int .u8)) : Owns (w.alloc (.cells cs 5)) w.heap.size (.slice (some ⟨w.heap.size, 0, none⟩) ys.length ys.length) ys := by
  have hs : cs.size = ys.length * 1 := by
    have := congrArg List.length h
    simp at this
    omega
  have := World.ownsRow_lit (base := w.heap.size) (e := 5) (size := 1) w cs ys.length (Nat.le_refl _) (by unfold maxLen; omega) hs
  rw [h] at this
  exact this

theorem refBool_any (b : Bool) (w : World) : Calls Tryz.prog 91 #[.bool b] w fun e w' => ∃ v', e = .returned v' ∧ Owns w' w.heap.size v' [b2i b] ∧ Below w.heap.size w w' := by
  cases b
  · go_enter Tryz.func91, Tryz.ntmps91
    go_wp2
    go_ret
    exact ⟨_, rfl, owns_new w _ [0] (by simp) rfl, (Below.refl _ _).alloc (Nat.le_refl _) _⟩
  · go_enter Tryz.func91, Tryz.ntmps91
    go_wp2
    go_ret
    exact ⟨_, rfl, owns_new w _ [1] (by simp) rfl, (Below.refl _ _).alloc (Nat.le_refl _) _⟩

theorem refInt8_any (n : Int) (w : World) (h0 : -128 ≤ n) (h1 : n ≤ 127) : Calls Tryz.prog 51 #[.int .i8 n] w fun e w' => ∃ v', e = .returned v' ∧ Owns w' w.heap.size v' [n % 256] ∧ Below w.heap.size w w' := by
  by_cases hn : n < 0
  · go_enter Tryz.func51, Tryz.ntmps51
    go_wp2
    go_ret
    exact ⟨_, rfl, owns_new w _ [n % 256] (by simp) (by simp; omega), (Below.refl _ _).alloc (Nat.le_refl _) _⟩
  · go_enter Tryz.func51, Tryz.ntmps51
    go_wp2
    go_ret
    exact ⟨_, rfl, owns_new w _ [n % 256] (by simp) (by simp; omega), (Below.refl _ _).alloc (Nat.le_refl _) _⟩

set_option maxHeartbeats 400000 in
theorem refUint32_any (n : Int) (w : World) (h0 : 0 ≤ n) (h1 : n < 4294967296) : Calls Tryz.prog 49 #[.int .u32 n] w fun e w' => ∃ v', e = .returned v' ∧ Owns w' w.heap.size v' (be4 n) ∧ Below w.heap.size w w' := by
  have hd : Hid (digs 4 n = be4 n) := digs4 n h0 h1
  go_enter Tryz.func49, Tryz.ntmps49
  go_wp2_with fail
  refine (digits_any n 4 _ (by omega) (by omega) (by omega)).mono ?_
  rintro e w1 ⟨v, rfl, hp⟩
  rw [hd.out] at hp
  have HP : Hid (Owns w1 w.heap.size v (be4 n) ∧ Below w.heap.size w w1) := hp
  clear hp
  go_wp2
  go_ret
  exact ⟨_, rfl, HP.out⟩

set_option maxHeartbeats 400000 in
theorem refBuffer_any (u : Value) (ys : List Int) (w : World) (h' : Sees w u ys) (hl : ys.length ≤ 2147483647) :
    Calls Tryz.prog 88 #[u] w fun e w' => ∃ v', e = .returned v' ∧ Owns w' w.heap.size v' (be4 ys.length ++ ys) ∧ Below w.heap.size w w' := by
  obtain ⟨ao, cap, rfl, hlc, hcm, _, h3⟩ := h'
  unfold maxLen at hcm
  obtain ⟨i0, hi, hz0, hz1, hz2⟩ := info_parts Tryz.infoByte
  have H3 : Hid _ := h3
  clear h3
  go_enter Tryz.func88, Tryz.ntmps88
  go_wp2_with fail
  refine (refInt32_any ys.length _ (by omega) (by omega)).mono ?_
  rintro e w1 ⟨v1, rfl, ho1, hb1⟩
  rw [show up32 (ys.length : Int) = ys.length by unfold up32; omega] at ho1
  have HP : Hid (Owns w1 w.heap.size v1 (be4 ys.length) ∧ Below w.heap.size w w1) := ⟨ho1, hb1⟩
  clear ho1 hb1
  go_wp2
  go_loopw [3, 4] (fun v i wr => ∃ k : Nat, k ≤ ys.length ∧ i = .int .i64 k ∧ Owns wr w.heap.size v (be4 ys.length ++ ys.take k) ∧ Below w.heap.size w wr) (fun _ i _ => ys.length - (intOf i).toNat)
  case atStart => exact ⟨0, Nat.zero_le _, rfl, by simpa using HP.out.1, HP.out.2⟩
  case round =>
    clear HP
    obtain ⟨k, hk, rfl, hown, hbel⟩ := hrel
    by_cases hlt : k < ys.length
    · rcases H3.out with h3 | ⟨b, off, rfl, h3⟩
      · subst h3; simp at hlt
      · have hc := cell_later (h3 k hlt) hbel (Nat.le_refl _)
        have HN : Hid _ := take_next ys k hlt
        have HL : Hid ((be4 (ys.length : Int) ++ ys.take k).length ≤ 4 + k) := by show _ ≤ _; simp [be4]; omega
        clear h3 H3
        generalize ys.getD k 0 = x at *
        have HN2 : Hid (be4 (ys.length : Int) ++ ys.take (k + 1) = (be4 (ys.length : Int) ++ ys.take k) ++ [x]) := by show _ = _; rw [HN.out]; simp
        clear HN
        generalize be4 (ys.length : Int) ++ ys.take k = zs at *
        have hsz := hbel.size
        go_wp2_with (at_builtin; refine wpList_append_own _ rfl _ _ 42 rfl w.heap.size 5 i0 (.int .u8 0) 1 1 Tryz.underlying42 hi hz0 hz1 hz2 rfl (by decide) _ _ _ rfl (hown.alloc _) ⟨wr.heap.size, 0, none⟩ 1 1 [.int .u8 x] rfl rfl ?c1 ?c2 ?c3 ?c4 ?c5 ?_)
        case c1 =>
          intro j u hj
          match j, hj with
          | 0, hj => simp at hj; subst hj; simp [Addr.add]
        case c2 => intro u hu; simp at hu; subst hu; rfl
        case c3 => have := HL.out; unfold maxLen; omega
        case c4 => have := HL.out; omega
        case c5 => simp; omega
        intro v' w1 hown' hgrow _
        have R := app_rel hsz hown hbel hown' hgrow
        clear hown' hgrow hown hc
        go_wp2
        go_roundw
        case rel => exact ⟨k + 1, by omega, by go_num, by rw [HN2.out]; exact R.1, R.2.1⟩
        case measure => simp [intOf]; omega
    · obtain rfl : k = ys.length := by omega
      rw [List.take_length] at hown
      go_wp2
      go_ret
      exact ⟨_, rfl, hown, hbel⟩

set_option maxHeartbeats 400000 in
theorem refText_any (s : ByteArray) (w : World) (hl : s.size ≤ 2147483647) :
    Calls Tryz.prog 87 #[.string s] w fun e w' => ∃ v', e = .returned v' ∧ Owns w' w.heap.size v' (be4 (txt s).length ++ txt s) ∧ Below w.heap.size w w' := by
  have hcv := run_bytes_of_string (P := Tryz.prog) w 9 42 5 s Tryz.underlying9 Tryz.underlying42 Tryz.underlying5
  go_enter Tryz.func87, Tryz.ntmps87
  go_wp2_with fail
  refine (refBuffer_any _ (txt s) _ (by exact sees_text w s (by unfold maxLen; omega) _) (by rw [txt_len]; omega)).mono ?_
  rintro e w1 ⟨v', rfl, ho, hb⟩
  have HP : Hid (Owns w1 w.heap.size v' (be4 (txt s).length ++ txt s) ∧ Below w.heap.size w w1) :=
    ⟨owns_mono ho (by simp), ((Below.refl w.heap.size w).alloc (Nat.le_refl _) _).drew.trans (hb.mono (by simp))⟩
  clear ho hb
  go_wp2
  go_ret
  exact ⟨_, rfl, HP.out⟩

end Go.Proofs.YtobnggkgpenmfaaGreatDoor
/- behind and putId of the document's layer 4: bytes behind others, in a row of one's own. -/
namespace Go.Proofs.YtobnggkgpenmfaaGreatDoor
open Go.RowKit
set_option maxRecDepth 8000

/-- The row v grew to v', of the bytes zs: no other block of w changed. -/
structure Beh (B : Nat) (w : World) (v : Value) (zs : List Int) (w' : World) (v' : Value) : Prop where
  own : Owns w' B v' zs
  kept : Kept w w' (fun k => v.ownBlock = some k)
  blk : ∀ j, v'.ownBlock = some j → v.ownBlock = some j ∨ w.heap.size ≤ j
  base : B ≤ w'.heap.size

theorem Beh.trans {B : Nat} {w w1 w2 : World} {v v1 v2 : Value} {xs ys : List Int} (h : Beh B w v xs w1 v1) (g : Beh B w1 v1 ys w2 v2) : Beh B w v ys w2 v2 := by
  have hs := h.kept.size
  refine ⟨g.own, ⟨?_, ?_, ?_, ?_, fun k hk hn => ?_⟩, fun j e => ?_, g.base⟩
  · rw [g.kept.os, h.kept.os]
  · rw [g.kept.tape, h.kept.tape]
  · rw [g.kept.output, h.kept.output]
  · have := g.kept.size; omega
  · rw [g.kept.block k (by omega) (fun e => ?_), h.kept.block k hk hn]
    rcases h.blk k e with h' | h'
    · exact hn h'
    · omega
  · rcases g.blk j e with h' | h'
    · exact h.blk j h'
    · exact .inr (by omega)

theorem Beh.refl {B : Nat} {w : World} {v : Value} {xs : List Int} (h : Owns w B v xs) (hB : B ≤ w.heap.size) : Beh B w v xs w v := ⟨h, Kept.refl _ _, fun _ e => .inl e, hB⟩

/-- Blocks came behind. -/
theorem Beh.later {B : Nat} {w w1 w2 : World} {v v1 : Value} {xs : List Int} (h : Beh B w v xs w1 v1) (hb : Below w1.heap.size w1 w2) : Beh B w v xs w2 v1 :=
  ⟨Owns.kept h.own (Below.kept hb) (fun k e h' => by have := (h.own.lt k e).2; omega), h.kept.trans ((Below.kept hb).mono (S' := fun _ => False) (fun k hk h' => by omega)) (fun _ _ h' => h'.elim), h.blk, Nat.le_trans h.base hb.size⟩

theorem Beh.below {B : Nat} {w w' : World} {v v' : Value} {xs zs : List Int} (h : Beh B w v zs w' v') (hv : Owns w B v xs) (hB : B ≤ w.heap.size) : Below B w w' :=
  ⟨h.kept.os, h.kept.tape, h.kept.output, h.kept.size, fun k hk => h.kept.block k (by omega) (fun e => by have := (hv.lt k e).1; omega)⟩

theorem be_step {B : Nat} {w wr w1 : World} {v0 v v' : Value} {xs : List Int} {x : Int} {o : Obj} (h : Beh B w v0 xs wr v)
    (hown' : w1.ownsRow B 5 1 v' (xs.length + 1) (xs.map (Value.int .u8) ++ [.int .u8 x])) (hgrow : (wr.alloc o).grownBy w1 v.ownBlock) (hb : v'.ownBlock = v.ownBlock ∨ v'.ownBlock = some (wr.heap.size + 1)) :
    Beh B w v0 (xs ++ [x]) w1 v' := by
  have hsz := h.kept.size
  have ha : Kept wr (wr.alloc o) (fun _ => False) := (Kept.refl wr _).alloc _
  have hsa : (wr.alloc o).heap.size = wr.heap.size + 1 := by simp
  have hg := hgrow.size
  refine h.trans ⟨by simpa [Owns] using hown', ⟨?_, ?_, ?_, by omega, fun k hk' hS => ?_⟩, fun j e => ?_, by have := h.base; omega⟩
  · rw [hgrow.os, ha.os]
  · rw [hgrow.tape, ha.tape]
  · rw [hgrow.output, ha.output]
  · rw [hgrow.block k (by omega) (fun e => hS e.symm), ha.block k hk' (fun h => h)]
  · rcases hb with h | h
    · rw [h] at e; exact .inl e
    · rw [h] at e; simp at e; omega

set_option maxHeartbeats 1000000 in
theorem behind_any (B : Nat) (v u : Value) (xs ys : List Int) (w : World) (hv : Owns w B v xs) (hu : Sees w u ys) (hd : ∀ j, u.ownBlock = some j → v.ownBlock ≠ some j) (hB : B ≤ w.heap.size) (hl : xs.length + ys.length ≤ 1000000000) :
    Calls Tryz.prog 50 #[v, u] w fun e w' => ∃ v', e = .returned v' ∧ Beh B w v (xs ++ ys) w' v' := by
  obtain ⟨i0, hi, hz0, hz1, hz2⟩ := info_parts Tryz.infoByte
  obtain ⟨ao, cap, rfl, hlc, hcm, _, h3⟩ := hu
  unfold maxLen at hcm
  have H3 : Hid _ := h3
  have HV : Hid (Owns w B v xs) := hv
  have HD : Hid _ := hd
  clear h3 hv hd
  go_enter Tryz.func50, Tryz.ntmps50
  go_wp2
  go_loopw [0, 5] (fun v' i wr => ∃ k : Nat, k ≤ ys.length ∧ i = .int .i64 k ∧ Beh B w v (xs ++ ys.take k) wr v') (fun _ i _ => ys.length - (intOf i).toNat)
  case atStart => exact ⟨0, Nat.zero_le _, rfl, by simpa using Beh.refl HV.out hB⟩
  case round =>
    clear HV
    obtain ⟨k, hk, rfl, hbe⟩ := hrel
    by_cases hlt : k < ys.length
    · rcases H3.out with h3 | ⟨b, off, rfl, h3⟩
      · subst h3; simp at hlt
      · have hc := hbe.kept.cell (h3 k hlt) (fun e => HD.out b rfl e)
        have HN : Hid _ := take_next ys k hlt
        have HL : Hid ((xs ++ ys.take k).length ≤ xs.length + k) := by show _ ≤ _; simp; omega
        clear h3 H3
        generalize ys.getD k 0 = x at *
        have HN2 : Hid (xs ++ ys.take (k + 1) = (xs ++ ys.take k) ++ [x]) := by show _ = _; rw [HN.out]; simp
        clear HN
        generalize xs ++ ys.take k = zs at *
        have HK : Hid _ := hbe
        have hown := hbe.own
        have hsz := hbe.base
        clear hbe
        go_wp2_with (at_builtin; refine wpList_append_own_at _ rfl _ _ 42 rfl B 5 i0 (.int .u8 0) 1 1 Tryz.underlying42 hi hz0 hz1 hz2 rfl (by decide) _ _ _ rfl (hown.alloc _) ⟨wr.heap.size, 0, none⟩ 1 1 [.int .u8 x] rfl rfl (cell_one_new _ _ _) ?c2 ?c3 ?c4 ?c5 ?_)
        case c2 => intro u hu; simp at hu; subst hu; rfl
        case c3 => have := HL.out; unfold maxLen; omega
        case c4 => have := HL.out; omega
        case c5 => simp; omega
        intro v' w1 hown' hgrow _ hbk
        have R : Hid _ := be_step HK.out hown' hgrow (by simpa using hbk)
        clear hown' hgrow hown hc hbk HK
        go_wp2
        go_roundw
        case rel => exact ⟨k + 1, by omega, by go_num, by rw [HN2.out]; exact R.out⟩
        case measure => simp [intOf]; omega
    · obtain rfl : k = ys.length := by omega
      rw [List.take_length] at hbe
      have HE : Hid _ := hbe
      clear hbe
      go_wp2
      go_ret
      exact ⟨_, rfl, HE.out⟩

/-- Bytes that were just made, behind others. -/
theorem behind_new {B : Nat} {v0 v u : Value} {xs ys : List Int} {w0 w w1 : World} (hv : Beh B w0 v0 xs w v) (hb : Below w.heap.size w w1) (hu : Owns w1 w.heap.size u ys) (hl : xs.length + ys.length ≤ 1000000000) :
    Calls Tryz.prog 50 #[v, u] w1 fun e w' => ∃ v', e = .returned v' ∧ Beh B w0 v0 (xs ++ ys) w' v' ∧ Kept w1 w' (fun k => v.ownBlock = some k) :=
  (behind_any B v u xs ys w1 (hv.later hb).own (Sees.own hu) (fun j e e' => by have h1 := (hu.lt j e).1; have h2 := (hv.own.lt j e').2; omega) (hv.later hb).base hl).mono fun e w' ⟨v', h1, h2⟩ => ⟨v', h1, (hv.later hb).trans h2, h2.kept⟩

set_option maxHeartbeats 1000000 in
theorem refPutId_any (B : Nat) (v : Value) (xs : List Int) (x : IdD) (w : World) (hv : Owns w B v xs) (hB : B ≤ w.heap.size) (h0 : x.scheme.size ≤ 1000) (h1 : x.name.size ≤ 1000) (hl : xs.length ≤ 200000000) :
    Calls Tryz.prog 90 #[v, .agg #[.string x.scheme, .string x.name]] w fun e w' => ∃ v', e = .returned v' ∧ Beh B w v (xs ++ idB x) w' v' := by
  obtain ⟨V, eV⟩ : ∃ V, V = w.alloc (.cells #[.string x.scheme, .string x.name] 101) := ⟨_, rfl⟩
  have HV : Hid (Below w.heap.size w V) := by subst eV; exact one_alloc _ _
  have HC : Hid (V.cell? ⟨w.heap.size, 0, none⟩ = some (.string x.scheme) ∧ V.cell? ⟨w.heap.size, 1, none⟩ = some (.string x.name)) := by
    subst eV
    refine ⟨?_, ?_⟩ <;> (rw [cell_of_row _ _ _ _ _ _ (heap_alloc_new _ _)]; rfl)
  have HE : Hid _ := eV
  have HO : Hid (Beh B w v xs V v) := (Beh.refl hv hB).later HV.out
  have HN : Hid (v.ownBlock ≠ some w.heap.size) := fun e => by have := (hv.lt _ e).2; omega
  have HL : Hid ((txtB x.scheme).length ≤ 1004 ∧ (txtB x.name).length ≤ 1004) := ⟨by rw [txtB_len]; omega, by rw [txtB_len]; omega⟩
  clear eV hv
  go_enter Tryz.func90, Tryz.ntmps90
  go_wp2_with fail
  rw [← HE.out]
  clear HE
  refine (refText_any x.scheme _ (by omega)).mono ?_
  rintro e w1 ⟨u1, rfl, hu1, hb1⟩
  have HX1 := behind_new HO.out hb1 hu1 (by have h1 := HL.out.1; unfold txtB at h1; omega)
  have HC1 : Hid (w1.cell? ⟨w.heap.size, 1, none⟩ = some (.string x.name)) := cell_later HC.out.2 hb1 (Nat.le_refl _)
  clear hu1 hb1
  go_wp2_with fail
  refine HX1.mono ?_
  clear HX1
  rintro e w2 ⟨v2, rfl, hv2, hk2⟩
  have HO2 : Hid (Beh B w v (xs ++ txtB x.scheme) w2 v2) := hv2
  have c1 := hk2.cell HC1.out HN.out
  clear hv2 hk2 HC1
  go_wp2_with fail
  refine (refText_any x.name _ (by omega)).mono ?_
  rintro e w3 ⟨u3, rfl, hu3, hb3⟩
  have HX3 := behind_new HO2.out hb3 hu3 (by have h1 := HL.out; unfold txtB at h1; simp only [txtB, List.length_append] at h1 ⊢; omega)
  clear hu3 hb3 c1
  go_wp2_with fail
  refine HX3.mono ?_
  clear HX3
  rintro e w4 ⟨v4, rfl, hv4, _⟩
  rw [List.append_assoc] at hv4
  have HO4 : Hid (Beh B w v (xs ++ idB x) w4 v4) := hv4
  clear hv4
  go_wp2_with fail
  go_ret
  exact ⟨_, rfl, HO4.out⟩
end Go.Proofs.YtobnggkgpenmfaaGreatDoor

/-
  DERIVED: THE SHELF's CONTRACTS AT THIS DUMP, IN PLAIN WORDS (tools/lay-plain.mjs out of 'TryzShelf.lean', which tools/lay-shelf.mjs wrote): THE SAME DECLARATIONS UNDER THE SAME NAMES: 'import', 'namespace', 'open', 'def', 'theorem' AND NOTHING ELSE: no command of the shelf's: FOR A HAND-IN. Each laying: the table of numbers ('.._ren') and one theorem, a field a fact of the dump's own or the kernel's comparison; each contract: ONE APPLICATION.
-/
namespace Go.Proofs
open Go.Shelf
def Tryz.laysM171_ren : Go.Shelf.Ren := ⟨fun | 171 => 92 | 243 => 102 | 246 => 112 | 283 => 113 | 284 => 114 | 285 => 115 | 286 => 116 | 129 => 118 | 317 => 117 | 318 => 119 | 319 => 120 | 320 => 121 | 337 => 122 | 338 => 123 | n => n, fun | 3 => 3 | 9 => 9 | 2 => 2 | 4 => 4 | 171 => 139 | 0 => 0 | 53 => 110 | 37 => 42 | 5 => 5 | 173 => 142 | 212 => 146 | 51 => 22 | 20 => 20 | 213 => 147 | 46 => 108 | 232 => 151 | 233 => 152 | n => n, fun | 17 => 1 | 18 => 2 | 19 => 3 | n => n⟩
theorem Tryz.laysM171 : Go.Proofs.LaysM.n171 Tryz.prog Tryz.laysM171_ren := {
  mixed := by kernel_rfl
  f129 := Tryz.func118.trans (congrArg some (by kernel_rfl))
  f171 := Tryz.func92.trans (congrArg some (by kernel_rfl))
  f243 := Tryz.func102.trans (congrArg some (by kernel_rfl))
  f246 := Tryz.func112.trans (congrArg some (by kernel_rfl))
  f283 := Tryz.func113.trans (congrArg some (by kernel_rfl))
  f284 := Tryz.func114.trans (congrArg some (by kernel_rfl))
  f285 := Tryz.func115.trans (congrArg some (by kernel_rfl))
  f286 := Tryz.func116.trans (congrArg some (by kernel_rfl))
  f317 := Tryz.func117.trans (congrArg some (by kernel_rfl))
  f318 := Tryz.func119.trans (congrArg some (by kernel_rfl))
  f319 := Tryz.func120.trans (congrArg some (by kernel_rfl))
  f320 := Tryz.func121.trans (congrArg some (by kernel_rfl))
  f337 := Tryz.func122.trans (congrArg some (by kernel_rfl))
  f338 := Tryz.func123.trans (congrArg some (by kernel_rfl))
  t0 := Tryz.underlying0
  a0 := Tryz.isAgg0
  z0 := Tryz.sizeOf0
  v0 := Tryz.zeroValue0
  t2 := Tryz.underlying2
  a2 := Tryz.isAgg2
  z2 := Tryz.sizeOf2
  v2 := Tryz.zeroValue2
  t3 := Tryz.underlying3
  a3 := Tryz.isAgg3
  z3 := Tryz.sizeOf3
  v3 := Tryz.zeroValue3
  t4 := Tryz.underlying4
  a4 := Tryz.isAgg4
  z4 := Tryz.sizeOf4
  v4 := Tryz.zeroValue4
  t5 := Tryz.underlying5
  a5 := Tryz.isAgg5
  z5 := Tryz.sizeOf5
  v5 := Tryz.zeroValue5
  t9 := Tryz.underlying9
  a9 := Tryz.isAgg9
  z9 := Tryz.sizeOf9
  v9 := Tryz.zeroValue9
  t20 := Tryz.underlying20
  a20 := Tryz.isAgg20
  z20 := Tryz.sizeOf20
  v20 := Tryz.zeroValue20
  t37 := Tryz.underlying42
  a37 := Tryz.isAgg42
  z37 := Tryz.sizeOf42
  v37 := Tryz.zeroValue42
  t46 := Tryz.underlying108
  a46 := Tryz.isAgg108
  z46 := Tryz.sizeOf108
  v46 := Tryz.zeroValue108
  t51 := Tryz.underlying22
  a51 := Tryz.isAgg22
  z51 := Tryz.sizeOf22
  v51 := Tryz.zeroValue22
  t53 := Tryz.underlying110
  a53 := Tryz.isAgg110
  z53 := Tryz.sizeOf110
  v53 := Tryz.zeroValue110
  t171 := Tryz.underlying139
  a171 := Tryz.isAgg139
  z171 := Tryz.sizeOf139
  v171 := Tryz.zeroValue139
  t173 := Tryz.underlying142
  a173 := Tryz.isAgg142
  z173 := Tryz.sizeOf142
  v173 := Tryz.zeroValue142
  t212 := Tryz.underlying146
  a212 := Tryz.isAgg146
  z212 := Tryz.sizeOf146
  v212 := Tryz.zeroValue146
  t213 := Tryz.underlying147
  a213 := Tryz.isAgg147
  z213 := Tryz.sizeOf147
  t232 := Tryz.underlying151
  a232 := Tryz.isAgg151
  z232 := Tryz.sizeOf151
  v232 := Tryz.zeroValue151
  t233 := Tryz.underlying152
  a233 := Tryz.isAgg152
  z233 := Tryz.sizeOf152
  v233 := Tryz.zeroValue152
  g17 := by kernel_rfl
  g18 := by kernel_rfl
  g19 := by kernel_rfl
  i0 := by kernel_rfl
  i2 := by kernel_rfl
  i3 := by kernel_rfl
  i4 := by kernel_rfl
  i5 := by kernel_rfl
  i9 := by kernel_rfl
  i20 := by kernel_rfl
  i37 := by kernel_rfl
  i46 := by kernel_rfl
  i51 := by kernel_rfl
  i53 := by kernel_rfl
  i171 := by kernel_rfl
  i173 := by kernel_rfl
  i212 := by kernel_rfl
  i232 := by kernel_rfl
  i233 := by kernel_rfl
  m17 := by kernel_rfl
  m18 := by kernel_rfl
  m19 := by kernel_rfl }
open Go.RowKit Go.Sort Go.Lib in
/-- strconv.Itoa: "Itoa is equivalent to FormatInt(int64(i), 10).": i's DECIMAL NUMERAL ('Lib.itoa': a '-' where i is negative, then the digits), FOR EVERY int. The world behind the call: the world before it, new blocks behind the heap (the library's 'var a [24]byte'), draws. (LAID: no walk: one application.) -/
theorem Tryz.strconv_Itoa (n : Int) (h0 : -9223372036854775808 ≤ n) (h1 : n ≤ 9223372036854775807) (w : World) (htab : Lib.TabIs Tryz.prog w "internal/strconv.uint64pow10" .u64 Lib.pow10Tab) :
    Calls Tryz.prog 92 #[.int .i64 n] w fun e w' => e = .returned (.string ⟨(Lib.itoa n).toArray⟩) ∧ ∃ k os, w' = grow (w.drewN k) os := Any.strconv_Itoa Tryz.laysM171 n h0 h1 w htab
end Go.Proofs

/- What mark of lagoonref00 answers; nothing that was there before is changed. -/
namespace Go.Proofs.YtobnggkgpenmfaaGreatDoor
open Go.RowKit
set_option maxRecDepth 8000

/-- The table that strconv's numerals read. -/
abbrev Tab (w : World) : Prop := Lib.TabIs Tryz.prog w "internal/strconv.uint64pow10" .u64 Lib.pow10Tab

theorem tab_global : Tryz.prog.globalNamed "internal/strconv.uint64pow10" = some 1 := by kernel_rfl

theorem Tab.below {B : Nat} {w w' : World} (h : Tab w) (hb : Below B w w') (hB : 1 < B) : Tab w' := var?_below hb tab_global hB h

theorem decDigits_len (u : Nat) : (Lib.decDigits u).length ≤ u / 10 + 2 := by
  induction u using Nat.strongRecOn with
  | _ u ih =>
    rw [Lib.decDigits]
    by_cases h : u < 10
    · rw [dif_pos h]; simp
    · rw [dif_neg h]
      have := ih (u / 10) (by omega)
      simp
      omega

theorem itoa_len (n : Int) (h0 : -9223372036854775808 ≤ n) (h1 : n ≤ 9223372036854775807) : (⟨(Lib.itoa n).toArray⟩ : ByteArray).size ≤ 9000000000000000000 := by
  show (Lib.itoa n).toArray.size ≤ _
  rw [List.size_toArray]
  unfold Lib.itoa
  by_cases h : n < 0
  · rw [if_pos h]
    have := decDigits_len n.natAbs
    simp
    omega
  · rw [if_neg h]
    have := decDigits_len n.toNat
    omega

/-- The text that mark makes of a number. -/
def markS (n : Int) : ByteArray := (⟨#[33]⟩ : ByteArray) ++ (⟨(Lib.itoa n).toArray⟩ : ByteArray)

set_option maxHeartbeats 400000 in
theorem mark_is (n : Int) (w : World) (h0 : -9223372036854775808 ≤ n) (h1 : n ≤ 9223372036854775807) (ht : Tab w) :
    Calls Tryz.prog 63 #[.int .i64 n] w fun e w' => e = .returned (.string (markS n)) ∧ Below w.heap.size w w' := by
  have HT : Hid (Tab w) := ht
  clear ht
  have hs := fun w => run_string_add_sum (P := Tryz.prog) w (⟨#[33]⟩ : ByteArray) (⟨(Lib.itoa n).toArray⟩ : ByteArray) (by have := itoa_len n h0 h1; show 1 + _ ≤ _; omega)
  go_enter Tryz.func63, Tryz.ntmps63
  go_wp2_with fail
  refine (Tryz.strconv_Itoa n h0 h1 _ HT.out).mono ?_
  rintro e w1 ⟨rfl, k, os, hw1⟩
  have HB : Hid (Below w.heap.size w w1) := by rw [hw1]; exact ⟨rfl, rfl, rfl, by simp [Sort.grow], fun i hi => by show (w.heap ++ os)[i]? = _; rw [Array.getElem?_append_left hi]⟩
  clear hw1
  go_wp2
  go_ret
  exact ⟨rfl, HB.out⟩


theorem markS_len (n : Int) (h0 : -2001000 ≤ n) (h1 : n ≤ 0) : (markS n).size ≤ 210000 := by
  unfold markS
  rw [ByteArray.size_append]
  show 1 + (Lib.itoa n).toArray.size ≤ _
  rw [List.size_toArray]
  unfold Lib.itoa
  by_cases h : n < 0
  · rw [if_pos h]
    have := decDigits_len n.natAbs
    simp
    omega
  · rw [if_neg h]
    have := decDigits_len n.toNat
    omega

end Go.Proofs.YtobnggkgpenmfaaGreatDoor

/- lagoonref00's WideAcl and WideIds over a request's lists: lists of their own with marks behind them. -/
namespace Go.Proofs.YtobnggkgpenmfaaGreatDoor
open Go.RowKit Go.Shelf
set_option maxRecDepth 8000

theorem cellsEW {w : World} {v : Value} {l : List EnD} (h : SeesR w v 3 (l.map EnD.cells)) : ∃ ao cap, v = .slice ao l.length cap ∧ l.length ≤ cap ∧ Hid (∀ k (hk : k < l.length), ∃ b off, ao = some ⟨b, off, none⟩ ∧ w.cell? ⟨b, off + k * 3, none⟩ = some (.int .i8 l[k].1) ∧ w.cell? ⟨b, off + k * 3 + 1, none⟩ = some (.string l[k].2.1) ∧ w.cell? ⟨b, off + k * 3 + 2, none⟩ = some (.string l[k].2.2)) := by
  obtain ⟨ao, cap, h1, h2, _, _, h3⟩ := h
  rw [List.length_map] at h1 h2
  refine ⟨ao, cap, h1, h2, fun k hk => ?_⟩
  rcases h3 with h3 | ⟨b, off, e, h3⟩
  · have : l.length = 0 := by simpa using congrArg List.length h3
    omega
  · have h := h3 k (by rw [List.length_map]; exact hk)
    refine ⟨b, off, e, ?_, ?_, ?_⟩
    · exact (h 0 (by omega)).trans (by simp [EnD.cells])
    · exact (h 1 (by omega)).trans (by simp [EnD.cells])
    · exact (h 2 (by omega)).trans (by simp [EnD.cells])

theorem cellsIW {w : World} {v : Value} {l : List IdD} (h : SeesR w v 2 (l.map IdD.cells)) : ∃ ao cap, v = .slice ao l.length cap ∧ l.length ≤ cap ∧ Hid (∀ k (hk : k < l.length), ∃ b off, ao = some ⟨b, off, none⟩ ∧ w.cell? ⟨b, off + k * 2, none⟩ = some (.string l[k].1) ∧ w.cell? ⟨b, off + k * 2 + 1, none⟩ = some (.string l[k].2)) := by
  obtain ⟨ao, cap, h1, h2, _, _, h3⟩ := h
  rw [List.length_map] at h1 h2
  refine ⟨ao, cap, h1, h2, fun k hk => ?_⟩
  rcases h3 with h3 | ⟨b, off, e, h3⟩
  · have : l.length = 0 := by simpa using congrArg List.length h3
    omega
  · have h := h3 k (by rw [List.length_map]; exact hk)
    refine ⟨b, off, e, ?_, ?_⟩
    · exact (h 0 (by omega)).trans (by simp [IdD.cells])
    · exact (h 1 (by omega)).trans (by simp [IdD.cells])

/-- What stands at a place of a wide list. -/
def weE (l : List EnD) (j : Nat) : EnD := l.getD j ⟨0, ⟨⟨#[]⟩, markS (-3000000 - (j : Int))⟩⟩
/-- The first k of a wide list. -/
def WeE (l : List EnD) (k : Nat) (cs : List Value) : Prop := ∀ j, j < k → cs[j * 3]? = some (.int .i8 (weE l j).1) ∧ cs[j * 3 + 1]? = some (.string (weE l j).2.1) ∧ cs[j * 3 + 2]? = some (.string (weE l j).2.2)
/-- A wide list in block g. -/
def WidE (w : World) (g : Nat) (l : List EnD) : Prop := ∃ cs, w.ownsRow g 103 3 (.slice (some ⟨g, 0, none⟩) (l.length + 64) (l.length + 64)) (l.length + 64) cs ∧ WeE l (l.length + 64) cs

theorem WeE_step {l : List EnD} {k : Nat} {cs : List Value} (h : WeE l k cs) (hl : k * 3 + 3 ≤ cs.length) {x : EnD} (hx : x = weE l k) : WeE l (k + 1) (((cs.set (k * 3) (.int .i8 (x).1)).set (k * 3 + 1) (.string (x).2.1)).set (k * 3 + 2) (.string (x).2.2)) := by
  intro j hj
  by_cases hjk : j < k
  · obtain ⟨a0, a1, a2⟩ := h j hjk
    refine ⟨?_, ?_, ?_⟩
    · rw [List.getElem?_set_ne (by omega), List.getElem?_set_ne (by omega), List.getElem?_set_ne (by omega)]; exact a0
    · rw [List.getElem?_set_ne (by omega), List.getElem?_set_ne (by omega), List.getElem?_set_ne (by omega)]; exact a1
    · rw [List.getElem?_set_ne (by omega), List.getElem?_set_ne (by omega), List.getElem?_set_ne (by omega)]; exact a2
  · obtain rfl : j = k := by omega
    subst hx
    refine ⟨?_, ?_, ?_⟩
    · rw [List.getElem?_set_ne (by omega), List.getElem?_set_ne (by omega), List.getElem?_set_self (by first | omega | (simp only [List.length_set]; omega))]
    · rw [List.getElem?_set_ne (by omega), List.getElem?_set_self (by first | omega | (simp only [List.length_set]; omega))]
    · rw [List.getElem?_set_self (by first | omega | (simp only [List.length_set]; omega))]

theorem WidE.below {w w' : World} {g : Nat} {l : List EnD} (h : WidE w g l) (hB : Below w.heap.size w w') : WidE w' g l := by
  obtain ⟨cs, h1, h2⟩ := h
  exact ⟨cs, ownsRow_kept h1 (Below.kept hB) (fun k hk e => by have := (h1.lt k hk).2; omega), h2⟩

theorem WidE.kept {w w' : World} {S : Nat → Prop} {g : Nat} {l : List EnD} (h : WidE w g l) (hk : Kept w w' S) (hS : ¬ S g) : WidE w' g l := by
  obtain ⟨cs, h1, h2⟩ := h
  exact ⟨cs, ownsRow_kept h1 hk (fun k hk e => by cases hk; exact hS e), h2⟩

theorem WidE.sees {w : World} {g : Nat} {l : List EnD} (h : WidE w g l) (hl : l.length ≤ 2000000000) : SeesR w (.slice (some ⟨g, 0, none⟩) l.length (l.length + 64)) 3 (l.map EnD.cells) := by
  obtain ⟨cs, h1, h2⟩ := h
  refine ⟨_, _, by rw [List.length_map], by rw [List.length_map]; omega, by unfold maxLen; omega, fun e => by simp at e, .inr ⟨g, 0, rfl, fun i hi j hj => ?_⟩⟩
  rw [List.length_map] at hi
  have hw : weE l i = l[i] := by unfold weE; rw [List.getD_eq_getElem?_getD, List.getElem?_eq_getElem hi]; rfl
  obtain ⟨a0, a1, a2⟩ := h2 i (by omega)
  rw [hw] at a0 a1 a2
  rw [Nat.zero_add, List.getElem_map]
  rcases (show j = 0 ∨ j = 1 ∨ j = 2 by omega) with rfl | rfl | rfl
  · rw [h1.cellAt _ (by omega)]; simpa [EnD.cells] using a0
  · rw [h1.cellAt _ (by omega)]; simpa [EnD.cells] using a1
  · rw [h1.cellAt _ (by omega)]; simpa [EnD.cells] using a2

set_option maxHeartbeats 1000000 in
theorem wideAcl_rq (v : Value) (l : List EnD) (w : World) (h : SeesR w v 3 (l.map EnD.cells)) (hreach : l.length ≤ 2000000000) (ht : Tab w) (hg0 : 1 < w.heap.size) :
    Calls Tryz.prog 57 #[v] w fun e w' => e = .returned (.slice (some ⟨w.heap.size, 0, none⟩) l.length (l.length + 64)) ∧ WidE w' w.heap.size l ∧ Below w.heap.size w w' := by
  have HT : Hid (Tab w ∧ 1 < w.heap.size) := ⟨ht, hg0⟩
  clear ht hg0
  obtain ⟨ao, cap, rfl, hlc, HC⟩ := cellsEW h
  clear h
  obtain ⟨i0, hi, hz0, hz1, hz2⟩ := info_parts Tryz.infoEn
  go_enter Tryz.func57, Tryz.ntmps57
  go_wp2_with (at_make; refine wpList_make_full _ rfl _ _ 43 rfl w.heap.size 103 i0 (.agg #[.int .i8 0, .string ⟨#[]⟩, .string ⟨#[]⟩]) 3 Tryz.underlying43 hi hz0 hz1 .i64 .i64 _ _ (l.length + 64) rfl rfl (by omega) (by omega) (by rw [hz2]; omega) (by unfold maxLen; omega) (Nat.le_refl _) ?_)
  intro w0 hown0 hgrow0
  have hbel0 : Below w.heap.size w w0 := (Below.refl _ _).grown hgrow0 (Nat.le_refl _) (fun k hk => by simp at hk)
  have HO0 : Hid (Below w.heap.size w w0 ∧ ∃ cs, w0.ownsRow w.heap.size 103 3 (.slice (some ⟨w.heap.size, 0, none⟩) (l.length + 64) (l.length + 64)) (l.length + 64) cs ∧ WeE l 0 cs) := ⟨hbel0, _, hown0, fun j hj => by omega⟩
  clear hown0 hgrow0 hbel0
  go_wp2
  go_loopw [4] (fun i wr => ∃ k : Nat, k ≤ l.length + 64 ∧ i = .int .i64 k ∧ Hid (Below w.heap.size w wr ∧ ∃ cs, wr.ownsRow w.heap.size 103 3 (.slice (some ⟨w.heap.size, 0, none⟩) (l.length + 64) (l.length + 64)) (l.length + 64) cs ∧ WeE l k cs)) (fun i _ => l.length + 64 - (intOf i).toNat)
  case atStart => exact ⟨0, Nat.zero_le _, rfl, HO0⟩
  case round =>
    clear HO0 w0
    obtain ⟨k, hk, rfl, HO⟩ := hrel
    by_cases hlt : k < l.length + 64
    · by_cases hlx : k < l.length
      · obtain ⟨hbel, cs, hown, hwd⟩ := HO.out
        have hl : cs.length = (l.length + 64) * 3 := hown.1
        obtain ⟨b, off, rfl, k0, k1, k2⟩ := HC.out k hlx
        have l0 := cell_later k0 hbel (Nat.le_refl _)
        have l1 := cell_later k1 hbel (Nat.le_refl _)
        have l2 := cell_later k2 hbel (Nat.le_refl _)
        obtain ⟨x, hx⟩ : ∃ x, x = l[k] := ⟨_, rfl⟩
        rw [← hx] at k0 l0 k1 l1 k2 l2
        have hxw : x = weE l k := by unfold weE; rw [List.getD_eq_getElem?_getD, List.getElem?_eq_getElem hlx]; exact hx
        obtain ⟨u0, hu0⟩ : ∃ u, wr.cell? ⟨w.heap.size, k * 3, none⟩ = some u := ⟨cs[k * 3]'(by omega), by rw [hown.cellAt _ (by omega), List.getElem?_eq_getElem (by omega)]⟩
        obtain ⟨u1, hu1⟩ : ∃ u, wr.cell? ⟨w.heap.size, k * 3 + 1, none⟩ = some u := ⟨cs[k * 3 + 1]'(by omega), by rw [hown.cellAt _ (by omega), List.getElem?_eq_getElem (by omega)]⟩
        obtain ⟨u2, hu2⟩ : ∃ u, wr.cell? ⟨w.heap.size, k * 3 + 2, none⟩ = some u := ⟨cs[k * 3 + 2]'(by omega), by rw [hown.cellAt _ (by omega), List.getElem?_eq_getElem (by omega)]⟩
        have hfz0 := hown.frozenAt (k * 3)
        have hfz1 := hown.frozenAt (k * 3 + 1)
        have hfz2 := hown.frozenAt (k * 3 + 2)
        have R0 := (hown.stored (k * 3) (.int .i8 (x).1)).1
        have R1 := (R0.stored (k * 3 + 1) (.string (x).2.1)).1
        have R2 := (R1.stored (k * 3 + 2) (.string (x).2.2)).1
        have RB := ((hbel.setCell (p := ⟨w.heap.size, k * 3, none⟩) (Nat.le_refl _) (.int .i8 (x).1)).setCell (p := ⟨w.heap.size, k * 3 + 1, none⟩) (Nat.le_refl _) (.string (x).2.1)).setCell (p := ⟨w.heap.size, k * 3 + 2, none⟩) (Nat.le_refl _) (.string (x).2.2)
        have HR : Hid (_ ∧ ∃ cs', _ ∧ WeE l (k + 1) cs') := ⟨RB, _, R2, WeE_step hwd (by omega) hxw⟩
        clear R0 R1 R2 RB hwd hxw hx hl hown hbel HO HC k0 k1 k2
        go_wp2
        go_roundw
        case rel => exact ⟨k + 1, by omega, by go_num, HR⟩
        case measure => simp [intOf]; omega
      · go_wp2_with fail
        refine (mark_is _ _ (by omega) (by omega) (HT.out.1.below HO.out.1 HT.out.2)).mono ?_
        rintro e w1 ⟨rfl, hb1⟩
        obtain ⟨hbel0, cs, hown0, hwd⟩ := HO.out
        have hown := ownsRow_kept hown0 (Below.kept hb1) (fun k hk e => by have := (hown0.lt k hk).2; omega)
        have hbel : Below w.heap.size w w1 := hbel0.trans (hb1.mono hbel0.size)
        have hl : cs.length = (l.length + 64) * 3 := hown.1
        have hxw : (⟨0, ⟨⟨#[]⟩, markS (-3000000 - (k : Int))⟩⟩ : EnD) = weE l k := by unfold weE; rw [List.getD_eq_getElem?_getD, List.getElem?_eq_none (by omega)]; rfl
        obtain ⟨u0, hu0⟩ : ∃ u, w1.cell? ⟨w.heap.size, k * 3, none⟩ = some u := ⟨cs[k * 3]'(by omega), by rw [hown.cellAt _ (by omega), List.getElem?_eq_getElem (by omega)]⟩
        obtain ⟨u1, hu1⟩ : ∃ u, w1.cell? ⟨w.heap.size, k * 3 + 1, none⟩ = some u := ⟨cs[k * 3 + 1]'(by omega), by rw [hown.cellAt _ (by omega), List.getElem?_eq_getElem (by omega)]⟩
        obtain ⟨u2, hu2⟩ : ∃ u, w1.cell? ⟨w.heap.size, k * 3 + 2, none⟩ = some u := ⟨cs[k * 3 + 2]'(by omega), by rw [hown.cellAt _ (by omega), List.getElem?_eq_getElem (by omega)]⟩
        have hfz0 := hown.frozenAt (k * 3)
        have hfz1 := hown.frozenAt (k * 3 + 1)
        have hfz2 := hown.frozenAt (k * 3 + 2)
        generalize markS (-3000000 - (k : Int)) = ms at *
        have R0 := (hown.stored (k * 3) (.int .i8 (⟨0, ⟨⟨#[]⟩, ms⟩⟩ : EnD).1)).1
        have R1 := (R0.stored (k * 3 + 1) (.string (⟨0, ⟨⟨#[]⟩, ms⟩⟩ : EnD).2.1)).1
        have R2 := (R1.stored (k * 3 + 2) (.string (⟨0, ⟨⟨#[]⟩, ms⟩⟩ : EnD).2.2)).1
        have RB := ((hbel.setCell (p := ⟨w.heap.size, k * 3, none⟩) (Nat.le_refl _) (.int .i8 (⟨0, ⟨⟨#[]⟩, ms⟩⟩ : EnD).1)).setCell (p := ⟨w.heap.size, k * 3 + 1, none⟩) (Nat.le_refl _) (.string (⟨0, ⟨⟨#[]⟩, ms⟩⟩ : EnD).2.1)).setCell (p := ⟨w.heap.size, k * 3 + 2, none⟩) (Nat.le_refl _) (.string (⟨0, ⟨⟨#[]⟩, ms⟩⟩ : EnD).2.2)
        have HR : Hid (_ ∧ ∃ cs', _ ∧ WeE l (k + 1) cs') := ⟨RB, _, R2, WeE_step hwd (by omega) hxw⟩
        clear R0 R1 R2 RB hwd hxw hl hown hown0 hbel hbel0 hb1 HO HC
        go_wp2
        go_roundw
        case rel => exact ⟨k + 1, by omega, by go_num, HR⟩
        case measure => simp [intOf]; omega
    · obtain rfl : k = l.length + 64 := by omega
      clear HC
      go_wp2
      go_ret
      obtain ⟨hbel, cs, hown, hwd⟩ := HO.out
      exact ⟨rfl, ⟨cs, hown, hwd⟩, hbel⟩

/-- What stands at a place of a wide list. -/
def weI (l : List IdD) (j : Nat) : IdD := l.getD j ⟨⟨#[]⟩, markS (-3000000 - (j : Int))⟩
/-- The first k of a wide list. -/
def WeI (l : List IdD) (k : Nat) (cs : List Value) : Prop := ∀ j, j < k → cs[j * 2]? = some (.string (weI l j).1) ∧ cs[j * 2 + 1]? = some (.string (weI l j).2)
/-- A wide list in block g. -/
def WidI (w : World) (g : Nat) (l : List IdD) : Prop := ∃ cs, w.ownsRow g 101 2 (.slice (some ⟨g, 0, none⟩) (l.length + 64) (l.length + 64)) (l.length + 64) cs ∧ WeI l (l.length + 64) cs

theorem WeI_step {l : List IdD} {k : Nat} {cs : List Value} (h : WeI l k cs) (hl : k * 2 + 2 ≤ cs.length) {x : IdD} (hx : x = weI l k) : WeI l (k + 1) ((cs.set (k * 2) (.string (x).1)).set (k * 2 + 1) (.string (x).2)) := by
  intro j hj
  by_cases hjk : j < k
  · obtain ⟨a0, a1⟩ := h j hjk
    refine ⟨?_, ?_⟩
    · rw [List.getElem?_set_ne (by omega), List.getElem?_set_ne (by omega)]; exact a0
    · rw [List.getElem?_set_ne (by omega), List.getElem?_set_ne (by omega)]; exact a1
  · obtain rfl : j = k := by omega
    subst hx
    refine ⟨?_, ?_⟩
    · rw [List.getElem?_set_ne (by omega), List.getElem?_set_self (by first | omega | (simp only [List.length_set]; omega))]
    · rw [List.getElem?_set_self (by first | omega | (simp only [List.length_set]; omega))]

theorem WidI.below {w w' : World} {g : Nat} {l : List IdD} (h : WidI w g l) (hB : Below w.heap.size w w') : WidI w' g l := by
  obtain ⟨cs, h1, h2⟩ := h
  exact ⟨cs, ownsRow_kept h1 (Below.kept hB) (fun k hk e => by have := (h1.lt k hk).2; omega), h2⟩

theorem WidI.kept {w w' : World} {S : Nat → Prop} {g : Nat} {l : List IdD} (h : WidI w g l) (hk : Kept w w' S) (hS : ¬ S g) : WidI w' g l := by
  obtain ⟨cs, h1, h2⟩ := h
  exact ⟨cs, ownsRow_kept h1 hk (fun k hk e => by cases hk; exact hS e), h2⟩

theorem WidI.sees {w : World} {g : Nat} {l : List IdD} (h : WidI w g l) (hl : l.length ≤ 2000000000) : SeesR w (.slice (some ⟨g, 0, none⟩) l.length (l.length + 64)) 2 (l.map IdD.cells) := by
  obtain ⟨cs, h1, h2⟩ := h
  refine ⟨_, _, by rw [List.length_map], by rw [List.length_map]; omega, by unfold maxLen; omega, fun e => by simp at e, .inr ⟨g, 0, rfl, fun i hi j hj => ?_⟩⟩
  rw [List.length_map] at hi
  have hw : weI l i = l[i] := by unfold weI; rw [List.getD_eq_getElem?_getD, List.getElem?_eq_getElem hi]; rfl
  obtain ⟨a0, a1⟩ := h2 i (by omega)
  rw [hw] at a0 a1
  rw [Nat.zero_add, List.getElem_map]
  rcases (show j = 0 ∨ j = 1 by omega) with rfl | rfl
  · rw [h1.cellAt _ (by omega)]; simpa [IdD.cells] using a0
  · rw [h1.cellAt _ (by omega)]; simpa [IdD.cells] using a1

set_option maxHeartbeats 1000000 in
theorem wideIds_rq (v : Value) (l : List IdD) (w : World) (h : SeesR w v 2 (l.map IdD.cells)) (hreach : l.length ≤ 2000000000) (ht : Tab w) (hg0 : 1 < w.heap.size) :
    Calls Tryz.prog 58 #[v] w fun e w' => e = .returned (.slice (some ⟨w.heap.size, 0, none⟩) l.length (l.length + 64)) ∧ WidI w' w.heap.size l ∧ Below w.heap.size w w' := by
  have HT : Hid (Tab w ∧ 1 < w.heap.size) := ⟨ht, hg0⟩
  clear ht hg0
  obtain ⟨ao, cap, rfl, hlc, HC⟩ := cellsIW h
  clear h
  obtain ⟨i0, hi, hz0, hz1, hz2⟩ := info_parts Tryz.infoId
  go_enter Tryz.func58, Tryz.ntmps58
  go_wp2_with (at_make; refine wpList_make_full _ rfl _ _ 44 rfl w.heap.size 101 i0 (.agg #[.string ⟨#[]⟩, .string ⟨#[]⟩]) 2 Tryz.underlying44 hi hz0 hz1 .i64 .i64 _ _ (l.length + 64) rfl rfl (by omega) (by omega) (by rw [hz2]; omega) (by unfold maxLen; omega) (Nat.le_refl _) ?_)
  intro w0 hown0 hgrow0
  have hbel0 : Below w.heap.size w w0 := (Below.refl _ _).grown hgrow0 (Nat.le_refl _) (fun k hk => by simp at hk)
  have HO0 : Hid (Below w.heap.size w w0 ∧ ∃ cs, w0.ownsRow w.heap.size 101 2 (.slice (some ⟨w.heap.size, 0, none⟩) (l.length + 64) (l.length + 64)) (l.length + 64) cs ∧ WeI l 0 cs) := ⟨hbel0, _, hown0, fun j hj => by omega⟩
  clear hown0 hgrow0 hbel0
  go_wp2
  go_loopw [4] (fun i wr => ∃ k : Nat, k ≤ l.length + 64 ∧ i = .int .i64 k ∧ Hid (Below w.heap.size w wr ∧ ∃ cs, wr.ownsRow w.heap.size 101 2 (.slice (some ⟨w.heap.size, 0, none⟩) (l.length + 64) (l.length + 64)) (l.length + 64) cs ∧ WeI l k cs)) (fun i _ => l.length + 64 - (intOf i).toNat)
  case atStart => exact ⟨0, Nat.zero_le _, rfl, HO0⟩
  case round =>
    clear HO0 w0
    obtain ⟨k, hk, rfl, HO⟩ := hrel
    by_cases hlt : k < l.length + 64
    · by_cases hlx : k < l.length
      · obtain ⟨hbel, cs, hown, hwd⟩ := HO.out
        have hl : cs.length = (l.length + 64) * 2 := hown.1
        obtain ⟨b, off, rfl, k0, k1⟩ := HC.out k hlx
        have l0 := cell_later k0 hbel (Nat.le_refl _)
        have l1 := cell_later k1 hbel (Nat.le_refl _)
        obtain ⟨x, hx⟩ : ∃ x, x = l[k] := ⟨_, rfl⟩
        rw [← hx] at k0 l0 k1 l1
        have hxw : x = weI l k := by unfold weI; rw [List.getD_eq_getElem?_getD, List.getElem?_eq_getElem hlx]; exact hx
        obtain ⟨u0, hu0⟩ : ∃ u, wr.cell? ⟨w.heap.size, k * 2, none⟩ = some u := ⟨cs[k * 2]'(by omega), by rw [hown.cellAt _ (by omega), List.getElem?_eq_getElem (by omega)]⟩
        obtain ⟨u1, hu1⟩ : ∃ u, wr.cell? ⟨w.heap.size, k * 2 + 1, none⟩ = some u := ⟨cs[k * 2 + 1]'(by omega), by rw [hown.cellAt _ (by omega), List.getElem?_eq_getElem (by omega)]⟩
        have hfz0 := hown.frozenAt (k * 2)
        have hfz1 := hown.frozenAt (k * 2 + 1)
        have R0 := (hown.stored (k * 2) (.string (x).1)).1
        have R1 := (R0.stored (k * 2 + 1) (.string (x).2)).1
        have RB := (hbel.setCell (p := ⟨w.heap.size, k * 2, none⟩) (Nat.le_refl _) (.string (x).1)).setCell (p := ⟨w.heap.size, k * 2 + 1, none⟩) (Nat.le_refl _) (.string (x).2)
        have HR : Hid (_ ∧ ∃ cs', _ ∧ WeI l (k + 1) cs') := ⟨RB, _, R1, WeI_step hwd (by omega) hxw⟩
        clear R0 R1 RB hwd hxw hx hl hown hbel HO HC k0 k1
        go_wp2
        go_roundw
        case rel => exact ⟨k + 1, by omega, by go_num, HR⟩
        case measure => simp [intOf]; omega
      · go_wp2_with fail
        refine (mark_is _ _ (by omega) (by omega) (HT.out.1.below HO.out.1 HT.out.2)).mono ?_
        rintro e w1 ⟨rfl, hb1⟩
        obtain ⟨hbel0, cs, hown0, hwd⟩ := HO.out
        have hown := ownsRow_kept hown0 (Below.kept hb1) (fun k hk e => by have := (hown0.lt k hk).2; omega)
        have hbel : Below w.heap.size w w1 := hbel0.trans (hb1.mono hbel0.size)
        have hl : cs.length = (l.length + 64) * 2 := hown.1
        have hxw : (⟨⟨#[]⟩, markS (-3000000 - (k : Int))⟩ : IdD) = weI l k := by unfold weI; rw [List.getD_eq_getElem?_getD, List.getElem?_eq_none (by omega)]; rfl
        obtain ⟨u0, hu0⟩ : ∃ u, w1.cell? ⟨w.heap.size, k * 2, none⟩ = some u := ⟨cs[k * 2]'(by omega), by rw [hown.cellAt _ (by omega), List.getElem?_eq_getElem (by omega)]⟩
        obtain ⟨u1, hu1⟩ : ∃ u, w1.cell? ⟨w.heap.size, k * 2 + 1, none⟩ = some u := ⟨cs[k * 2 + 1]'(by omega), by rw [hown.cellAt _ (by omega), List.getElem?_eq_getElem (by omega)]⟩
        have hfz0 := hown.frozenAt (k * 2)
        have hfz1 := hown.frozenAt (k * 2 + 1)
        generalize markS (-3000000 - (k : Int)) = ms at *
        have R0 := (hown.stored (k * 2) (.string (⟨⟨#[]⟩, ms⟩ : IdD).1)).1
        have R1 := (R0.stored (k * 2 + 1) (.string (⟨⟨#[]⟩, ms⟩ : IdD).2)).1
        have RB := (hbel.setCell (p := ⟨w.heap.size, k * 2, none⟩) (Nat.le_refl _) (.string (⟨⟨#[]⟩, ms⟩ : IdD).1)).setCell (p := ⟨w.heap.size, k * 2 + 1, none⟩) (Nat.le_refl _) (.string (⟨⟨#[]⟩, ms⟩ : IdD).2)
        have HR : Hid (_ ∧ ∃ cs', _ ∧ WeI l (k + 1) cs') := ⟨RB, _, R1, WeI_step hwd (by omega) hxw⟩
        clear R0 R1 RB hwd hxw hl hown hown0 hbel hbel0 hb1 HO HC
        go_wp2
        go_roundw
        case rel => exact ⟨k + 1, by omega, by go_num, HR⟩
        case measure => simp [intOf]; omega
    · obtain rfl : k = l.length + 64 := by omega
      clear HC
      go_wp2
      go_ret
      obtain ⟨hbel, cs, hown, hwd⟩ := HO.out
      exact ⟨rfl, ⟨cs, hown, hwd⟩, hbel⟩

end Go.Proofs.YtobnggkgpenmfaaGreatDoor
