import Derived.Test.YtgeoocchdpehdaaGreatDoorPlGJ
import Derived.Test.YtgeoocchdpehdaaGreatDoorPlHJ
import Derived.Test.YtgeoocchdpehdaaGreatDoorPlJJ
import Derived.Maps.AppendAt
import Derived.Test.YtgeoocchdpehdaaGreatDoorProg
import Derived.Test.YtgeoocchdpehdaaGreatDoorMemJ
import Derived.Test.YtgeoocchdpehdaaGreatDoorWrTJ
import Derived.Test.YtgeoocchdpehdaaGreatDoorPkBJ
namespace Go.Proofs.YtgeoocchdpehdaaGreatDoor
open Go.RowKit
set_option maxRecDepth 8000

section
variable (p : PkD) (tz : Bool) (hz : tz = true ↔ p.tx = txN) (hg : p.good) (hby : Byts p.bys) (hc : chkP p tz = true)
include hz hg hby hc

theorem readP_cut (s : Int) (s0 : 0 ≤ s) (s1 : s < 4294967296) (rs0 tl : List Int) (hy : rs0 ++ tl = (fldsP p).flatMap (fun j => fdB j p)) (htl : tl ≠ []) (b : Value) (w : World) (hs : Sees w b (be4 s ++ ([p.kind % 256] ++ rs0))) (hn : Nam w) (hp : PNam w) :
    Calls Tryz.prog 8 #[b] w fun r w' => r = .returned (.tuple #[.agg (zPk 0), .int .i64 150]) ∧ Below w.heap.size w w' := by
  by_cases he : s = adler ([p.kind % 256] ++ rs0)
  · rw [he] at hs
    exact readP_gone _ b w hs hn hp (fun W h1 h2 h3 => parsed_cut p tz hz hg hby hc rs0 tl hy htl b W h1 h2 h3)
  · have hall : bodyP p = [p.kind % 256] ++ (rs0 ++ tl) := by rw [hy]; rfl
    have hba : Byts (([p.kind % 256] ++ rs0) ++ tl) := by rw [List.append_assoc, ← hall]; exact body_byts p hg hby (chk_all hc)
    have hle : 1 + (rs0.length + tl.length) ≤ 8188 := by have a := body_le hc; rw [hall] at a; simp at a; omega
    exact readP_sum s _ ((byts4 _ s0 (by omega)).append (fun x hx => hba x (List.mem_append.2 (.inl hx)))) (by simp) (by simp; omega) he b w hs hn hp

theorem readP_more (s : Int) (s0 : 0 ≤ s) (s1 : s < 4294967296) (zs : List Int) (hzs : zs ≠ []) (hzb : Byts zs) (b : Value) (w : World) (hs : Sees w b (be4 s ++ (bodyP p ++ zs))) (hn : Nam w) (hp : PNam w) :
    Calls Tryz.prog 8 #[b] w fun r w' => r = .returned (.tuple #[.agg (zPk 0), .int .i64 150]) ∧ Below w.heap.size w w' := by
  have hlb : (be4 s ++ (bodyP p ++ zs)).length = 4 + (bodyP p ++ zs).length := by rw [List.length_append]; rfl
  by_cases hl : (bodyP p ++ zs).length ≤ 8188
  · by_cases he : s = adler (bodyP p ++ zs)
    · rw [he] at hs
      exact readP_gone _ b w hs hn hp (fun W h1 h2 h3 => parsed_more p tz hz hg hby hc zs hzs hzb hl b W h1 h2 h3)
    · exact readP_sum s _ ((byts4 _ s0 (by omega)).append ((body_byts p hg hby (chk_all hc)).append hzb)) (by intro e; exact hzs (List.append_eq_nil_iff.1 e).2) hl he b w hs hn hp
  · exact readP_many _ (by omega) b w hs hn hp
end
end Go.Proofs.YtgeoocchdpehdaaGreatDoor

namespace Go.Proofs.YtgeoocchdpehdaaGreatDoor
open Go.RowKit
set_option maxRecDepth 8000

theorem body_take (p : PkD) (m : Nat) (h1 : 1 ≤ m) (h2 : m < (bodyP p).length) : ∃ rs0 tl, (bodyP p).take m = [p.kind % 256] ++ rs0 ∧ rs0 ++ tl = (fldsP p).flatMap (fun j => fdB j p) ∧ tl ≠ [] := by
  obtain ⟨k, rfl⟩ : ∃ k, m = k + 1 := ⟨m - 1, by omega⟩
  have e : bodyP p = (p.kind % 256) :: (fldsP p).flatMap (fun j => fdB j p) := rfl
  rw [e] at h2 ⊢
  refine ⟨((fldsP p).flatMap (fun j => fdB j p)).take k, ((fldsP p).flatMap (fun j => fdB j p)).drop k, rfl, List.take_append_drop _ _, fun h => ?_⟩
  have := congrArg List.length h
  rw [List.length_drop] at this
  simp only [List.length_cons, List.length_nil] at h2 this
  omega

section
variable (p : PkD) (tz : Bool) (hz : tz = true ↔ p.tx = txN) (hg : p.good) (hby : Byts p.bys) (hc : chkP p tz = true)
include hz hg hby hc

theorem readP_head (s : Int) (s0 : 0 ≤ s) (s1 : s < 4294967296) (m : Nat) (hm : m < (bodyP p).length) (b : Value) (w : World) (hs : Sees w b (be4 s ++ (bodyP p).take m)) (hn : Nam w) (hp : PNam w) :
    Calls Tryz.prog 8 #[b] w fun r w' => r = .returned (.tuple #[.agg (zPk 0), .int .i64 150]) ∧ Below w.heap.size w w' := by
  by_cases h0 : m = 0
  · subst h0
    exact readP_few _ (by simp [be4]) b w hs hn hp
  · obtain ⟨rs0, tl, e, hy, htl⟩ := body_take p m (by omega) hm
    rw [e] at hs
    exact readP_cut p tz hz hg hby hc s s0 s1 rs0 tl hy htl b w hs hn hp

theorem readP_take (n : Nat) (hl : n < (pkB p).length) (b : Value) (w : World) (hs : Sees w b ((pkB p).take n)) (hn : Nam w) (hp : PNam w) :
    Calls Tryz.prog 8 #[b] w fun r w' => r = .returned (.tuple #[.agg (zPk 0), .int .i64 150]) ∧ Below w.heap.size w w' := by
  by_cases h4 : n ≤ 4
  · exact readP_few _ (by rw [List.length_take]; omega) b w hs hn hp
  · have had := adler_bd (bodyP p)
    have e : (pkB p).take n = be4 (adler (bodyP p)) ++ (bodyP p).take (n - 4) := by
      obtain ⟨k, rfl⟩ : ∃ k, n = k + 4 := ⟨n - 4, by omega⟩
      rfl
    rw [e] at hs
    exact readP_head p tz hz hg hby hc _ had.1 had.2 (n - 4) (by rw [pkB_len] at hl; omega) b w hs hn hp
end
end Go.Proofs.YtgeoocchdpehdaaGreatDoor

namespace Go.Proofs.YtgeoocchdpehdaaGreatDoor
open Go.RowKit
set_option maxRecDepth 8000

structure Beh15 (B : Nat) (w : World) (v : Value) (zs : List Int) (w' : World) (v' : Value) : Prop where
  own : Owns w' B v' zs
  kept : Kept w w' (fun k => v.ownBlock = some k)
  blk : ∀ j, v'.ownBlock = some j → v.ownBlock = some j ∨ w.heap.size ≤ j
  base : B ≤ w'.heap.size

theorem Beh15.trans {B : Nat} {w w1 w2 : World} {v v1 v2 : Value} {xs ys : List Int} (h : Beh15 B w v xs w1 v1) (g : Beh15 B w1 v1 ys w2 v2) : Beh15 B w v ys w2 v2 := by
  have hs := h.kept.size
  refine ⟨g.own, ⟨?_, ?_, ?_, ?_, fun k hk hn => ?_⟩, fun j e => ?_, g.base⟩
  · rw [g.kept.os, h.kept.os]
  · rw [g.kept.tape, h.kept.tape]
  · rw [g.kept.output, h.kept.output]
  · have := g.kept.size; omega
  · rw [g.kept.block k (by omega) (fun e => ?_), h.kept.block k hk hn]
    rcases h.blk k e with h' | h'
    · exact hn h'
    · omega
  · rcases g.blk j e with h' | h'
    · exact h.blk j h'
    · exact .inr (by omega)

theorem Beh15.refl {B : Nat} {w : World} {v : Value} {xs : List Int} (h : Owns w B v xs) (hB : B ≤ w.heap.size) : Beh15 B w v xs w v := ⟨h, Kept.refl _ _, fun _ e => .inl e, hB⟩

theorem Beh15.below {B : Nat} {w w' : World} {v v' : Value} {xs zs : List Int} (h : Beh15 B w v zs w' v') (hv : Owns w B v xs) (hB : B ≤ w.heap.size) : Below B w w' :=
  ⟨h.kept.os, h.kept.tape, h.kept.output, h.kept.size, fun k hk => h.kept.block k (by omega) (fun e => by have := (hv.lt k e).1; omega)⟩

theorem be15_step {B : Nat} {w wr w1 : World} {v0 v v' : Value} {xs : List Int} {x : Int} {o : Obj} (h : Beh15 B w v0 xs wr v)
    (hown' : w1.ownsRow B 5 1 v' (xs.length + 1) (xs.map (Value.int .u8) ++ [.int .u8 x])) (hgrow : (wr.alloc o).grownBy w1 v.ownBlock) (hb : v'.ownBlock = v.ownBlock ∨ v'.ownBlock = some (wr.heap.size + 1)) :
    Beh15 B w v0 (xs ++ [x]) w1 v' := by
  have hsz := h.kept.size
  have ha : Kept wr (wr.alloc o) (fun _ => False) := (Kept.refl wr _).alloc _
  have hsa : (wr.alloc o).heap.size = wr.heap.size + 1 := by simp
  have hg := hgrow.size
  refine h.trans ⟨by simpa [Owns] using hown', ⟨?_, ?_, ?_, by omega, fun k hk' hS => ?_⟩, fun j e => ?_, by have := h.base; omega⟩
  · rw [hgrow.os, ha.os]
  · rw [hgrow.tape, ha.tape]
  · rw [hgrow.output, ha.output]
  · rw [hgrow.block k (by omega) (fun e => hS e.symm), ha.block k hk' (fun h => h)]
  · rcases hb with h | h
    · rw [h] at e; exact .inl e
    · rw [h] at e; simp at e; omega

set_option maxHeartbeats 1000000 in
theorem behind15_any (B : Nat) (v u : Value) (xs ys : List Int) (w : World) (hv : Owns w B v xs) (hu : Sees w u ys) (hd : ∀ j, u.ownBlock = some j → v.ownBlock ≠ some j) (hB : B ≤ w.heap.size) (hl : xs.length + ys.length ≤ 1000000000) :
    Calls Tryz.prog 30 #[v, u] w fun e w' => ∃ v', e = .returned v' ∧ Beh15 B w v (xs ++ ys) w' v' := by
  obtain ⟨i0, hi, hz0, hz1, hz2⟩ := info_parts Tryz.infoByte
  obtain ⟨ao, cap, rfl, hlc, hcm, _, h3⟩ := hu
  unfold maxLen at hcm
  have H3 : Hid _ := h3
  have HV : Hid (Owns w B v xs) := hv
  have HD : Hid _ := hd
  clear h3 hv hd
  go_enter Tryz.func30, Tryz.ntmps30
  go_wp2
  go_loopw [0, 5] (fun v' i wr => ∃ k : Nat, k ≤ ys.length ∧ i = .int .i64 k ∧ Beh15 B w v (xs ++ ys.take k) wr v') (fun _ i _ => ys.length - (intOf i).toNat)
  case atStart => exact ⟨0, Nat.zero_le _, rfl, by simpa using Beh15.refl HV.out hB⟩
  case round =>
    clear HV
    obtain ⟨k, hk, rfl, hbe⟩ := hrel
    by_cases hlt : k < ys.length
    · rcases H3.out with h3 | ⟨b, off, rfl, h3⟩
      · subst h3; simp at hlt
      · have hc := hbe.kept.cell (h3 k hlt) (fun e => HD.out b rfl e)
        have HN : Hid _ := take_next ys k hlt
        have HL : Hid ((xs ++ ys.take k).length ≤ xs.length + k) := by show _ ≤ _; simp; omega
        clear h3 H3
        generalize ys.getD k 0 = x at *
        have HN2 : Hid (xs ++ ys.take (k + 1) = (xs ++ ys.take k) ++ [x]) := by show _ = _; rw [HN.out]; simp
        clear HN
        generalize xs ++ ys.take k = zs at *
        have HK : Hid _ := hbe
        have hown := hbe.own
        have hsz := hbe.base
        clear hbe
        go_wp2_with (at_builtin; refine wpList_append_own_at _ rfl _ _ 30 rfl B 5 i0 (.int .u8 0) 1 1 Tryz.underlying30 hi hz0 hz1 hz2 rfl (by decide) _ _ _ rfl (hown.alloc _) ⟨wr.heap.size, 0, none⟩ 1 1 [.int .u8 x] rfl rfl (cell_one_new _ _ _) ?c2 ?c3 ?c4 ?c5 ?_)
        case c2 => intro u hu; simp at hu; subst hu; rfl
        case c3 => have := HL.out; unfold maxLen; omega
        case c4 => have := HL.out; omega
        case c5 => simp; omega
        intro v' w1 hown' hgrow _ hbk
        have R : Hid _ := be15_step HK.out hown' hgrow (by simpa using hbk)
        clear hown' hgrow hown hc hbk HK
        go_wp2
        go_roundw
        case rel => exact ⟨k + 1, by omega, by go_num, by rw [HN2.out]; exact R.out⟩
        case measure => simp [intOf]; omega
    · obtain rfl : k = ys.length := by omega
      rw [List.take_length] at hbe
      have HE : Hid _ := hbe
      clear hbe
      go_wp2
      go_ret
      exact ⟨_, rfl, HE.out⟩

end Go.Proofs.YtgeoocchdpehdaaGreatDoor

namespace Go.Proofs.YtgeoocchdpehdaaGreatDoor
open Go.RowKit
set_option maxRecDepth 8000

set_option maxHeartbeats 400000 in
theorem refSum_any (v : Value) (xs : List Int) (w : World) (h : Sees w v xs) (hb : Byts xs) :
    Calls Tryz.prog 29 #[v] w fun e w' => e = .returned (.int .u32 (adler xs)) ∧ w' = w := by
  obtain ⟨ao, cap, rfl, hlc, hcm, _, h3⟩ := h
  unfold maxLen at hcm
  go_enter Tryz.func29, Tryz.ntmps29
  go_wp2
  go_loop [3, 4, 5] (fun lo hi i => ∃ k : Nat, k ≤ xs.length ∧ i = .int .i64 k ∧ lo = .int .i64 (adl (xs.take k)).1 ∧ hi = .int .i64 (adl (xs.take k)).2) (fun _ _ i => xs.length - (intOf i).toNat)
  case atStart => exact ⟨0, Nat.zero_le _, rfl, rfl, rfl⟩
  case round =>
    obtain ⟨k, hk, rfl, rfl, rfl⟩ := hrel
    have hd := adl_bd (xs.take k)
    by_cases hlt : k < xs.length
    · rcases h3 with h3 | ⟨b, off, rfl, h3⟩
      · subst h3; simp at hlt
      · have hc := h3 k hlt
        have hx := hb.nth k
        have HS : Hid _ := adl_next xs k hlt
        generalize xs.getD k 0 = x at *
        generalize hA : (adl (xs.take k)).1 = A at *
        generalize hB : (adl (xs.take k)).2 = B at *
        clear hA hB h3 hb
        go_wp2
        go_loop [3] (fun a => ∃ m : Int, 0 ≤ m ∧ m ≤ 65775 ∧ m % 65521 = (A + x) % 65521 ∧ a = .int .i64 m) (fun a => (intOf a).toNat)
        case atStart => exact ⟨A + x, by omega, by omega, rfl, rfl⟩
        case round =>
          obtain ⟨m, hm0, hm1, hm2, rfl⟩ := hrel
          have H2 : Hid _ := hm2
          clear hm2
          by_cases hm : m < 65521
          · go_wp2
            go_round
            have hm2 := H2.out
            case rel => exact ⟨k + 1, by omega, by go_num, by rw [HS.out.1, ← H2.out, Int.emod_eq_of_lt hm0 hm], by rw [HS.out.2, ← H2.out, Int.emod_eq_of_lt hm0 hm]⟩
            case measure => simp [intOf]; omega
          · go_wp2
            go_round
            case rel => exact ⟨m - 65521, by omega, by omega, by have := H2.out; omega, rfl⟩
            case measure => simp [intOf]; omega
    · obtain rfl : k = xs.length := by omega
      rw [List.take_length] at *
      go_wp2
      go_ret
      exact ⟨ret_int (by unfold adler; omega), rfl⟩

end Go.Proofs.YtgeoocchdpehdaaGreatDoor

namespace Go.Proofs.YtgeoocchdpehdaaGreatDoor
open Go.RowKit
set_option maxRecDepth 8000

def digs : Nat → Int → List Int
  | 0, _ => []
  | m + 1, n => digs m (n / 256) ++ [n % 256]

theorem digs4 (n : Int) (h0 : 0 ≤ n) (h1 : n < 4294967296) : digs 4 n = be4 n := by
  simp only [digs, be4, List.nil_append, List.cons_append, List.cons.injEq, and_true]
  omega

theorem drop_set {zs : List Int} {k : Nat} (x : Int) (hk : k < zs.length) : (zs.set k x).drop k = x :: zs.drop (k + 1) := by
  rw [List.drop_eq_getElem_cons (by simpa using hk), List.drop_set_of_lt (by omega)]
  simp

set_option maxHeartbeats 400000 in
theorem digits_any (n : Int) (m : Nat) (w : World) (hm : m ≤ 8) (h0 : 0 ≤ n) (h1 : n ≤ 18446744073709551615) :
    Calls Tryz.prog 47 #[.int .u64 n, .int .i64 m] w fun e w' => ∃ v', e = .returned v' ∧ Owns w' w.heap.size v' (digs m n) ∧ Below w.heap.size w w' := by
  obtain ⟨i0, hi, hz0, hz1, hz2⟩ := info_parts Tryz.infoByte
  go_enter Tryz.func47, Tryz.ntmps47
  go_wp2_with (at_make; refine wpList_make_full _ rfl _ _ 30 rfl w.heap.size 5 i0 (.int .u8 0) 1 Tryz.underlying30 hi hz0 hz1 .i64 .i64 _ _ m rfl rfl (by omega) (by omega) (by rw [hz2]; omega) (by unfold maxLen; omega) (Nat.le_refl _) ?_)
  intro w0 hown0 hgrow0
  have hown1 := made_owns hown0
  have hbel0 : Below w.heap.size w w0 := (Below.refl _ _).grown hgrow0 (Nat.le_refl _) (fun k hk => by simp at hk)
  have HO1 : Hid (Owns w0 w.heap.size (.slice (some ⟨w.heap.size, 0, none⟩) (List.replicate m (0 : Int)).length m) (List.replicate m 0)) := hown1
  clear hown0 hgrow0 hown1
  go_wp2
  go_loopw [0, 6] (fun q i wr => ∃ (k : Nat) (c : Int) (zs : List Int), k ≤ m ∧ 0 ≤ c ∧ c ≤ 18446744073709551615 ∧ q = .int .u64 c ∧ i = .int .i64 (k - 1) ∧ zs.length = m ∧ Owns wr w.heap.size (.slice (some ⟨w.heap.size, 0, none⟩) zs.length m) zs ∧ digs m n = digs k c ++ zs.drop k ∧ Below w.heap.size w wr) (fun _ i _ => (intOf i + 1).toNat)
  case atStart => exact ⟨m, n, _, Nat.le_refl _, h0, h1, rfl, by go_num, by simp, HO1.out, by simp, hbel0⟩
  case round =>
    clear HO1 hbel0 w0
    obtain ⟨k, c, zs, hk, hc0, hc1, rfl, rfl, hzl, hown, hd, hbel⟩ := hrel
    have HZ : Hid (zs.length = m ∧ Owns wr w.heap.size (.slice (some ⟨w.heap.size, 0, none⟩) zs.length m) zs ∧ digs m n = digs k c ++ zs.drop k ∧ Below w.heap.size w wr) := ⟨hzl, hown, hd, hbel⟩
    clear hd hzl hbel
    cases k with
    | zero =>
      clear hown
      go_wp2
      go_ret
      obtain ⟨z1, z2, z3, z4⟩ := HZ.out
      have e : digs m n = zs := by rw [z3]; simp [digs]
      rw [z1] at z2
      exact ⟨_, rfl, by rw [e]; exact z2, z4⟩
    | succ k =>
      have e : ((k + 1 : Nat) : Int) - 1 = k := by omega
      rw [e]
      clear e
      have hcz := owns_cell hown k (by rw [HZ.out.1]; omega)
      have hfz := hown.frozenAt k
      clear hown
      go_wp2
      obtain ⟨z1, z2, z3, z4⟩ := HZ.out
      have R := owns_set z2 k (c % 256)
      have R2 : digs m n = digs k (c / 256) ++ (zs.set k (c % 256)).drop k := by
        rw [drop_set _ (by omega), z3]; simp [digs]
      have R3 : Below w.heap.size w (wr.setCell ⟨w.heap.size, k, none⟩ (.int .u8 (c % 256))) := z4.setCell (Nat.le_refl _) _
      go_roundw
      case rel => exact ⟨k, c / 256, zs.set k (c % 256), by omega, by omega, by omega, rfl, by go_num, by simpa using z1, R.1, R2, R3⟩
      case measure => simp [intOf]

end Go.Proofs.YtgeoocchdpehdaaGreatDoor

namespace Go.Proofs.YtgeoocchdpehdaaGreatDoor
open Go.RowKit
set_option maxRecDepth 8000

set_option maxHeartbeats 400000 in
theorem refU32_15 (n : Int) (w : World) (h0 : 0 ≤ n) (h1 : n < 4294967296) : Calls Tryz.prog 28 #[.int .u32 n] w fun e w' => ∃ v', e = .returned v' ∧ Owns w' w.heap.size v' (be4 n) ∧ Below w.heap.size w w' := by
  have hd : Hid (digs 4 n = be4 n) := digs4 n h0 h1
  go_enter Tryz.func28, Tryz.ntmps28
  go_wp2_with fail
  refine (digits_any n 4 _ (by omega) (by omega) (by omega)).mono ?_
  rintro e w1 ⟨v, rfl, hp⟩
  rw [hd.out] at hp
  have HP : Hid (Owns w1 w.heap.size v (be4 n) ∧ Below w.heap.size w w1) := hp
  clear hp
  go_wp2
  go_ret
  exact ⟨_, rfl, HP.out⟩

set_option maxHeartbeats 1000000 in
theorem summed15 (u : Value) (ys : List Int) (w : World) (hu : Sees w u ys) (hul : ∀ j, u.ownBlock = some j → j < w.heap.size) (hb : Byts ys) (hl : ys.length ≤ 900000000) :
    Calls Tryz.prog 10 #[u] w fun e w' => ∃ v', e = .returned v' ∧ Owns w' w.heap.size v' (be4 (adler ys) ++ ys) ∧ Below w.heap.size w w' := by
  have had := adler_bd ys
  have HX : Hid (Sees w u ys ∧ Byts ys ∧ (0 ≤ adler ys ∧ adler ys < 4294967296) ∧ (∀ j, u.ownBlock = some j → j < w.heap.size) ∧ ys.length ≤ 900000000) := ⟨hu, hb, had, hul, hl⟩
  obtain ⟨ao, n, cap, rfl⟩ := sees_form hu
  clear hu hb had hul hl
  go_enter Tryz.func10, Tryz.ntmps10
  go_wp2_with fail
  refine (refSum_any _ ys w HX.out.1 HX.out.2.1).mono ?_
  rintro _ w1 ⟨rfl, rfl⟩
  go_wp2_with fail
  refine (refU32_15 _ w1 HX.out.2.2.1.1 HX.out.2.2.1.2).mono ?_
  rintro _ w2 ⟨v2, rfl, hown, b2⟩
  have H2 : Hid (Owns w2 w1.heap.size v2 (be4 (adler ys)) ∧ Below w1.heap.size w1 w2) := ⟨hown, b2⟩
  clear hown b2
  obtain ⟨s0, s1, s2, rfl⟩ := sees_form (Sees.own H2.out.1)
  go_wp2_with fail
  refine (behind15_any w1.heap.size _ _ (be4 (adler ys)) ys w2 H2.out.1 (HX.out.1.below H2.out.2 (Nat.le_refl _)) (fun j e e' => by have h1 := HX.out.2.2.2.1 j e; have h2 := (H2.out.1.lt j e').1; omega) H2.out.2.size (by have := HX.out.2.2.2.2; simp [be4]; omega)).mono ?_
  rintro _ w3 ⟨v3, rfl, hbe⟩
  have H3 : Hid (Owns w3 w1.heap.size v3 (be4 (adler ys) ++ ys) ∧ Below w1.heap.size w1 w3) := ⟨hbe.own, H2.out.2.trans ((hbe.below H2.out.1 H2.out.2.size).mono (Nat.le_refl _))⟩
  clear hbe H2
  go_wp2_with fail
  go_ret
  exact ⟨_, rfl, H3.out⟩
end Go.Proofs.YtgeoocchdpehdaaGreatDoor

namespace Go.Proofs.YtgeoocchdpehdaaGreatDoor
open Go.RowKit
set_option maxRecDepth 8000

theorem sees_cut15 {w : World} {b off cap i j : Nat} {xs : List Int} (h : Sees w (.slice (some ⟨b, off, none⟩) xs.length cap) xs) (hij : i ≤ j) (hj : j ≤ xs.length) :
    Sees w (.slice (some ⟨b, off + i, none⟩) (j - i) (cap - i)) ((xs.drop i).take (j - i)) := by
  obtain ⟨ao', cap', e, g1, g2, _, g3⟩ := h
  simp at e
  obtain ⟨rfl, rfl⟩ := e
  have hl : ((xs.drop i).take (j - i)).length = j - i := by simp; omega
  refine ⟨_, cap - i, by rw [hl], by omega, by omega, fun e => by simp at e, ?_⟩
  rcases g3 with g3 | ⟨b', off', e, g3⟩
  · exact .inl (by rw [g3]; simp)
  · simp at e
    obtain ⟨rfl, rfl⟩ := e
    refine .inr ⟨b, off + i, rfl, fun k hk => ?_⟩
    rw [hl] at hk
    rw [Nat.add_assoc, g3 (i + k) (by omega)]
    simp [List.getD_eq_getElem?_getD, hk]

structure PvOk (pv : Array Value) : Prop where
  sz : (Tryz.prog.info? 39).map (·.size) = some pv.size
  z : (zPk 0).size = pv.size
  one : pv.all (·.oneCell') = true

theorem pvOk_zero : PvOk (zPk 0) := ⟨pkSz0, rfl, by simp [Value.oneCell']⟩
theorem pvOk_pk {w : World} {p : PkD} {tc : List Value} {bv : Value} (h : SeesPk w tc bv p) : PvOk (pkL p tc bv).toArray := ⟨pkSz p tc bv h.tx.len, by simp [pkL, h.tx.len], pk_oneS h⟩

def endE (ms : List Int) : Int := if ms.length = 0 then 0 else 150

section
variable (p : PkD) (tz : Bool) (hz : tz = true ↔ p.tx = txN) (hg : p.good) (hby : Byts p.bys) (hc : chkP p tz = true)
include hz hg hby hc

theorem readP_ends (s : Int) (ms : List Int) (hmb : Byts ms) (hs0 : s = adler (bodyP p ++ ms) ∨ s = adler (bodyP p)) (b : Value) (w : World) (hs : Sees w b (be4 s ++ (bodyP p ++ ms))) (hn : Nam w) (hp : PNam w) :
    Calls Tryz.prog 8 #[b] w fun r w' => ∃ pv, r = .returned (.tuple #[.agg pv, .int .i64 (endE ms)]) ∧ PvOk pv ∧ Below w.heap.size w w' := by
  have hsb : 0 ≤ s ∧ s < 4294967296 := by rcases hs0 with rfl | rfl <;> exact adler_bd _
  by_cases h0 : ms = []
  · subst h0
    have es : s = adler (bodyP p) := by rcases hs0 with h | h <;> simpa using h
    have : Sees w b (pkB p) := by rw [List.append_nil, es] at hs; exact hs
    refine (readP_good p tz hz hg hby hc b w this hn hp).mono ?_
    rintro r w' ⟨tc, bv, rfl, ho, hb⟩
    exact ⟨_, rfl, pvOk_pk ho.sees, hb⟩
  · refine (readP_more p tz hz hg hby hc s hsb.1 hsb.2 ms h0 hmb b w hs hn hp).mono ?_
    rintro r w' ⟨rfl, hb⟩
    have e : endE ms = 150 := if_neg (fun e => h0 (List.eq_nil_of_length_eq_zero e))
    exact ⟨_, by rw [e], pvOk_zero, hb⟩

theorem readP_begins (n : Nat) (hl : n < (pkB p).length) (b : Value) (w : World) (hs : Sees w b ((pkB p).take n)) (hn : Nam w) (hp : PNam w) :
    Calls Tryz.prog 8 #[b] w fun r w' => ∃ pv, r = .returned (.tuple #[.agg pv, .int .i64 150]) ∧ PvOk pv ∧ Below w.heap.size w w' :=
  (readP_take p tz hz hg hby hc n hl b w hs hn hp).mono fun _ _ h => ⟨_, h.1, pvOk_zero, h.2⟩

theorem readP_begins2 (n : Nat) (h4 : 4 ≤ n) (hl : n < (pkB p).length) (b : Value) (w : World) (hs : Sees w b (be4 (adler (((pkB p).drop 4).take (n - 4))) ++ ((pkB p).drop 4).take (n - 4))) (hn : Nam w) (hp : PNam w) :
    Calls Tryz.prog 8 #[b] w fun r w' => ∃ pv, r = .returned (.tuple #[.agg pv, .int .i64 150]) ∧ PvOk pv ∧ Below w.heap.size w w' := by
  have had := adler_bd (((pkB p).drop 4).take (n - 4))
  have e : (pkB p).drop 4 = bodyP p := rfl
  rw [e] at hs had
  exact (readP_head p tz hz hg hby hc _ had.1 had.2 (n - 4) (by rw [pkB_len] at hl; omega) b w hs hn hp).mono fun _ _ h => ⟨_, h.1, pvOk_zero, h.2⟩
end
end Go.Proofs.YtgeoocchdpehdaaGreatDoor
