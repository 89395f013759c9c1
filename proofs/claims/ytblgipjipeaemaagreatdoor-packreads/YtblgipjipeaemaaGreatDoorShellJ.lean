/- A list of calls (the statements' Op) in memory, and the statements' long. -/
import Derived.Test.YtblgipjipeaemaaGreatDoorPut3J
import Derived.Deep.QuietTactic
import Derived.BigQuiet
import Derived.Test.YtblgipjipeaemaaGreatDoorReaderJ
import Derived.Test.YtblgipjipeaemaaGreatDoorPutJ
import Derived.Test.YtblgipjipeaemaaGreatDoorRawJ
import Derived.ProofKit
import Derived.OpenShut
import Derived.ShutString
import Derived.ChangeOld
namespace Go.Proofs.YtblgipjipeaemaaGreatDoor
open Go.RowKit
set_option maxRecDepth 8000

/-- A call as it stands in a list: its bytes are ys, seen through a slice from ao on with room cap. -/
structure OpD where
  kind : Int
  on : Int
  n : Int
  x : Nat
  s : ByteArray
  ao : Option Addr
  cap : Nat
  ys : List Int

def OpD.size (o : OpD) : Nat := 1 + o.s.size + o.ys.length
def opSum : List OpD → Nat
  | [] => 0
  | o :: r => o.size + opSum r

theorem opSum_append (a b : List OpD) : opSum (a ++ b) = opSum a + opSum b := by
  induction a with
  | nil => simp [opSum]
  | cons o r ih => simp only [List.cons_append, opSum, ih]; omega
theorem opSum_next {os : List OpD} {k : Nat} (h : k < os.length) : opSum (os.take (k + 1)) = opSum (os.take k) + os[k].size := by
  rw [List.take_succ_eq_append_getElem h, opSum_append]; simp [opSum]
theorem opSum_take (os : List OpD) (k : Nat) : opSum (os.take k) ≤ opSum os := by
  conv => rhs; rw [← List.take_append_drop k os, opSum_append]
  omega

/-- The six cells of a call. -/
structure SeesOp (w : World) (b off : Nat) (o : OpD) : Prop where
  c0 : w.cell? ⟨b, off, none⟩ = some (.int .i64 o.kind)
  c1 : w.cell? ⟨b, off + 1, none⟩ = some (.int .i64 o.on)
  c2 : w.cell? ⟨b, off + 2, none⟩ = some (.int .i64 o.n)
  c3 : w.cell? ⟨b, off + 3, none⟩ = some (.float .f64 o.x)
  c4 : w.cell? ⟨b, off + 4, none⟩ = some (.string o.s)
  c5 : w.cell? ⟨b, off + 5, none⟩ = some (.slice o.ao o.ys.length o.cap)
  sb : o.s.size ≤ 140737488355328
  yb : o.ys.length ≤ 140737488355328

/-- The slice value leads to the calls os. -/
def SeesOps (w : World) (v : Value) (os : List OpD) : Prop :=
  ∃ (ao : Option Addr) (cap : Nat), v = .slice ao os.length cap ∧ os.length ≤ cap ∧ cap ≤ maxLen ∧ (os = [] ∨ ∃ b off, ao = some ⟨b, off, none⟩ ∧ ∀ i (h : i < os.length), SeesOp w b (off + i * 6) os[i])

set_option maxHeartbeats 400000 in
theorem long_any (v : Value) (os : List OpD) (w : World) (h : SeesOps w v os) :
    Calls Tryz.prog 5 #[v] w fun e w' => ∃ r, e = .returned (.bool r) ∧ (r = false → opSum os ≤ 67108864) ∧ ∃ m, w' = w.drewN m := by
  obtain ⟨ao, cap, rfl, hlc, hcm, h3⟩ := h
  unfold maxLen at hcm
  go_enter Tryz.func5, Tryz.ntmps5
  go_wp2
  go_loopw [3, 4] (fun n i wr => ∃ k m : Nat, k ≤ os.length ∧ i = .int .i64 k ∧ n = .int .i64 (opSum (os.take k)) ∧ wr = w.drewN m) (fun _ i _ => os.length - (intOf i).toNat)
  case atStart => exact ⟨0, 0, Nat.zero_le _, rfl, rfl, rfl⟩
  case round =>
    obtain ⟨k, m, hk, rfl, rfl, rfl⟩ := hrel
    by_cases hlt : k < os.length
    · rcases h3 with h3 | ⟨b, off, rfl, h3⟩
      · subst h3; simp at hlt
      have hN : Hid (opSum (os.take (k + 1)) = opSum (os.take k) + os[k].size) := opSum_next hlt
      by_cases hle : opSum (os.take k) ≤ 67108864
      · have c4 := (h3 k hlt).c4
        have c5 := (h3 k hlt).c5
        have sb := (h3 k hlt).sb
        have yb := (h3 k hlt).yb
        have hz : os[k].size = 1 + os[k].s.size + os[k].ys.length := rfl
        have HZ : Hid (os[k].size = 1 + os[k].s.size + os[k].ys.length) := hz
        clear h3 hz
        generalize os[k].s = s at *
        generalize os[k].ys.length = l at *
        generalize os[k].ao = ao at *
        generalize os[k].cap = c at *
        generalize hq : opSum (os.take k) = q at *
        go_wp2
        go_quiet (fail)
        all_goals go_wp2
        all_goals go_roundw
        case rel => exact ⟨k + 1, _, by omega, by go_num, by rw [hN.out, HZ.out]; go_num, rfl⟩
        case measure => simp [intOf]; omega
      · clear h3
        generalize opSum (os.take k) = q at *
        go_wp2
        go_ret
        exact ⟨_, rfl, fun h => by simp at h, _, rfl⟩
    · obtain rfl : k = os.length := by omega
      rw [List.take_length]
      have hT : Hid (opSum os ≤ opSum os) := Nat.le_refl _
      generalize hq : opSum os = q at *
      go_wp2
      go_ret
      exact ⟨_, rfl, fun h => by simp at h; omega, _, rfl⟩

end Go.Proofs.YtblgipjipeaemaaGreatDoor

/- What the statements' own first look 'works' answers: true; nothing that was there before is changed. -/
namespace Go.Proofs.YtblgipjipeaemaaGreatDoor
open Go.RowKit
set_option maxRecDepth 8000

theorem byts_lit {xs : List Int} (h : xs.all (fun x => decide (0 ≤ x ∧ x ≤ 255)) = true) : Byts xs := fun x hx => by
  have := List.all_eq_true.1 h x hx
  simpa using this

theorem below_writer {B : Nat} {w w' : World} {g : Nat} {v : Value} (h : Kept w w' (fun k => k = g ∨ v.ownBlock = some k)) (hB : B ≤ w.heap.size) (hg : B ≤ g) (hv : ∀ k, v.ownBlock = some k → B ≤ k) : Below B w w' := by
  refine h.below hB (fun k hk => ?_)
  rcases hk with hk | hk
  · omega
  · exact hv k hk

theorem below_reader {B : Nat} {w w' : World} {g : Nat} (h : Kept w w' (· = g)) (hB : B ≤ w.heap.size) (hg : B ≤ g) : Below B w w' :=
  h.below hB (fun k hk => by omega)

theorem works_e1 : rdNum 4 [255, 255, 255, 254, 9] 0 = ⟨4294967294, [9], 0⟩ := by simp [rdNum, num]
theorem works_e2 : down32 4294967294 = -2 := by rw [down32_is _ (by omega) (by omega)]; simp
theorem works_e3 : adler [97, 98, 99] = 38600999 := by decide

set_option maxHeartbeats 400000 in
theorem works_any (w : World) : Calls Tryz.prog 4 #[] w fun e w' => e = .returned (.bool true) ∧ Below w.heap.size w w' := by
  have HW0 : Hid (IsW (w.alloc (.cells #[.slice none 0 0] 37)) w.heap.size (.slice none 0 0) []) := ⟨heap_alloc_new _ _, World.ownsRow_nil _ _ _ _⟩
  go_enter Tryz.func4, Tryz.ntmps4
  go_wp2_with fail
  refine (wInt32_any w.heap.size _ [] (-2) _ HW0.out (by simp)).mono ?_
  rintro e w1 ⟨rfl, hp⟩
  obtain ⟨vW, hW, hnW, hK⟩ := hp
  have HB1 : Hid (Below w.heap.size w w1) := ((Below.refl w.heap.size w).alloc (Nat.le_refl _) _).trans (below_writer hK (by simp) (Nat.le_refl _) (fun k hk => by simp [Value.ownBlock] at hk))
  have HW1 : Hid (IsW w1 w.heap.size vW [255, 255, 255, 254]) := hW
  clear hW hnW hK HW0
  go_wp2_with fail
  refine (new_any _ [255, 255, 255, 254, 9] _ (sees_new _ [255, 255, 255, 254, 9] (by simp) rfl) (by simp)).mono ?_
  rintro e w2 ⟨gR, vR, rfl, hR, hgR, hoR, hb⟩
  have hz2 : w1.heap.size + 1 ≤ gR := by simpa using hgR
  have hs1 := HB1.out.size
  have HB2 : Hid (Below w.heap.size w w2) := (HB1.out.alloc hs1 _).trans (hb.mono (by simp; omega))
  have hlW : ∀ k, vW.ownBlock = some k → k < w1.heap.size := fun k hk => (HW1.out.2.lt k hk).2
  have hgW : w.heap.size < w1.heap.size := lt_of_block HW1.out.1
  have HW2 : Hid (IsW w2 w.heap.size vW [255, 255, 255, 254]) := ((HW1.out.alloc _).kept (Below.kept hb) (by simp; omega) (fun k hk => by have := hlW k hk; simp; omega))
  have HR2 : Hid (IsR w2 gR vR [255, 255, 255, 254, 9] 0 ∧ (∀ k, vR.ownBlock = some k → w1.heap.size < k)) := ⟨hR, fun k hk => by have := (hoR.lt k hk).1; simp at this; omega⟩
  have HL : Hid (∀ k, vW.ownBlock = some k → k < w1.heap.size) := hlW
  clear hR hoR hb HW1 HB1 hlW hgR
  go_wp2_with fail
  refine (rInt32_any gR vR _ 0 _ HR2.out.1 (byts_lit rfl)).mono ?_
  rintro e w3 ⟨rfl, hr⟩
  rw [works_e1] at hr
  rw [works_e1, works_e2]
  obtain ⟨vR', hR3, hvR, hk3⟩ := hr
  have HW3 : Hid (IsW w3 w.heap.size vW [255, 255, 255, 254]) := HW2.out.kept hk3 (by omega) (fun k hk => by have := HL.out k hk; omega)
  have HR3 : Hid (IsR w3 gR vR' [9] 0) := hR3
  have HB3 : Hid (Below w.heap.size w w3) := HB2.out.trans (below_reader hk3 HB2.out.size (by omega))
  clear hR3 hvR hk3 HR2 HW2 HB2 HL
  go_wp2_with fail
  refine (packSum_any _ [97, 98, 99] _ (sees_new _ [97, 98, 99] (by simp) rfl) (byts_lit rfl)).mono ?_
  rintro e w4 ⟨rfl, hw4⟩
  rw [works_e3]
  have HW4 : Hid (IsW w4 w.heap.size vW [255, 255, 255, 254]) := by rw [hw4]; exact HW3.out.alloc _
  have HR4 : Hid (IsR w4 gR vR' [9] 0) := by rw [hw4]; exact HR3.out.kept ((Kept.refl _ (fun _ => False)).alloc _) (fun h => h) (fun _ _ h => h)
  have HB4 : Hid (Below w.heap.size w w4) := by rw [hw4]; exact HB3.out.alloc HB3.out.size _
  have hgR4 : gR < w4.heap.size := lt_of_block HR4.out.1
  have hlR : ∀ k, vR'.ownBlock = some k → k < w4.heap.size := fun k hk => by
    obtain ⟨ao, cap, rfl, _, _, _, h3⟩ := HR4.out.2
    rcases h3 with h3 | ⟨b, off, rfl, h3⟩
    · simp at h3
    · simp [Value.ownBlock] at hk
      subst hk
      have := World.block_lt_of_cell? w4 _ (h3 0 (by simp))
      simpa using this
  have HL : Hid (∀ k, vR'.ownBlock = some k → k < w4.heap.size) := hlR
  clear hw4 HW3 HR3 HB3 hlR
  go_wp2_with fail
  refine (wBytes_any _ vW _ _ HW4.out (by simp)).mono ?_
  rintro e w5 ⟨v5, rfl, ho5, hb5⟩
  have HO5 : Hid (Owns w5 w4.heap.size v5 [255, 255, 255, 254]) := ho5
  have HR5 : Hid (IsR w5 gR vR' [9] 0) := HR4.out.kept (Below.kept hb5) (by omega) (fun k hk => by have := HL.out k hk; omega)
  have HB5 : Hid (Below w.heap.size w w5) := HB4.out.trans (hb5.mono HB4.out.size)
  clear ho5 hb5 HW4 HR4 HB4 HL
  go_wp2_with fail
  refine (eqBytes_any _ _ [255, 255, 255, 254] [255, 255, 255, 254] _ (by exact Sees.own (HO5.out.alloc _)) (by exact sees_new _ [255, 255, 255, 254] (by simp) rfl)).mono ?_
  rintro e w6 ⟨rfl, n6, hw6⟩
  have HR6 : Hid (IsR w6 gR vR' [9] 0) := by rw [hw6]; exact HR5.out.kept (((Kept.refl _ (fun _ => False)).alloc _).drewN _) (fun h => h) (fun _ _ h => h)
  have HB6 : Hid (Below w.heap.size w w6) := by rw [hw6]; exact below_drewN (HB5.out.alloc HB5.out.size _) _
  have ed : decide (([255, 255, 255, 254] : List Int) = [255, 255, 255, 254]) = true := by decide
  rw [ed]
  clear hw6 HR5 HB5 HO5 ed
  go_wp2_with fail
  refine (rLeft_any gR vR' [9] 0 _ HR6.out).mono ?_
  rintro e w7 ⟨rfl, rfl⟩
  go_wp2
  go_ret
  exact ⟨rfl, HB6.out⟩
end Go.Proofs.YtblgipjipeaemaaGreatDoor

/- What a law's walk is told of a slice of integers that came in, and what follows for slices of bytes; no Go function is walked here. -/
namespace Go.Proofs.YtblgipjipeaemaaGreatDoor
open Go.ChangeShapes Go.WideShapes Go.ChangeAt Go.RowKit
set_option maxRecDepth 8000

theorem Tryz.own : ownKnob Tryz.prog.godebug = none := by kernel_rfl
theorem Tryz.laidOut : laidOutB Tryz.prog = true := by kernel_rfl

/-- A slice of integers that came in: it is nil; or it leads to a row of 'cap' cells, the numbers 'zs' (the first 'len' are its elements), each fitting its kind. -/
def IsRow (k : IntKind) (w : World) (a : Option Addr) (len cap : Nat) (zs : List Int) : Prop :=
  (a = none ∧ len = 0 ∧ cap = 0 ∧ zs = []) ∨
  ∃ x, a = some x ∧ len ≤ cap ∧ cap ≤ maxLen ∧ zs.length = cap ∧ (∀ i, i < zs.length → w.cell? (x.add i) = some (.int k (zs.getD i 0))) ∧ ∀ n ∈ zs, (Lit.int k n).wf = true

theorem sees_row {w : World} {a : Option Addr} {len cap : Nat} {zs : List Int} (h : IsRow .u8 w a len cap zs) : ∃ xs, xs.length = len ∧ Sees w (.slice a len cap) xs ∧ Byts xs := by
  rcases h with ⟨rfl, rfl, rfl, rfl⟩ | ⟨x, rfl, h1, h2, h3, h4, h5⟩
  · exact ⟨[], rfl, sees_nil w, fun x hx => by simp at hx⟩
  · have hl : (zs.take len).length = len := by simp; omega
    refine ⟨zs.take len, hl, ⟨some x, cap, by rw [hl], by omega, h2, fun e => by simp at e, ?_⟩, ?_⟩
    · by_cases h0 : len = 0
      · subst h0; exact .inl (by simp)
      · obtain ⟨b, off, spot⟩ := x
        have hc := h4 0 (by omega)
        have hspot : spot = none := by simpa [Addr.add] using World.cell?_spot hc
        subst hspot
        refine .inr ⟨b, off, rfl, fun i hi => ?_⟩
        have := h4 i (by omega)
        rw [addr_add] at this
        rw [this]
        have hi' : i < len := by omega
        simp [List.getD_eq_getElem?_getD, hi']
    · intro x hx
      have := h5 x (List.mem_of_mem_take hx)
      exact bounds_u8 this

theorem xor_byte (x y : Int) (h0 : 0 ≤ x) (h1 : x ≤ 255) (h2 : 0 ≤ y) (h3 : y ≤ 255) : 0 ≤ bits .xor .u8 x y ∧ bits .xor .u8 x y ≤ 255 := by
  rw [u8_xor x y (by omega) (by omega) (by omega) (by omega)]
  have : x.toNat ^^^ y.toNat < 2 ^ 8 := Nat.xor_lt_two_pow (by omega) (by omega)
  omega

theorem byts_set {xs : List Int} (h : Byts xs) (k : Nat) (x : Int) (h0 : 0 ≤ x) (h1 : x ≤ 255) : Byts (xs.set k x) := fun y hy => by
  rcases List.mem_or_eq_of_mem_set hy with hy | rfl
  · exact h y hy
  · exact ⟨h0, h1⟩

theorem byts_wide {xs : List Int} (h : Byts xs) : Byts (wide xs) := fun y hy => by
  simp only [wide, List.mem_map, List.mem_range] at hy
  obtain ⟨i, _, rfl⟩ := hy
  split
  · exact h.nth i
  · omega

end Go.Proofs.YtblgipjipeaemaaGreatDoor
