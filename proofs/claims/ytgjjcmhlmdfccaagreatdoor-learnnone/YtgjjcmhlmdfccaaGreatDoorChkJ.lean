/- What the small parts of txn.Check answer: isZxid, isOrigin, the layouts, names, bit, filled, needed. -/
import Derived.Test.YtgjjcmhlmdfccaaGreatDoorZxJ
import Derived.Test.YtgjjcmhlmdfccaaGreatDoorLeafSumJ
import Derived.Lib.LaidTab
import Derived.Deep.RegionHeld
import Derived.BigQuiet
namespace Go.Proofs.YtgjjcmhlmdfccaaGreatDoor
open Go.RowKit
set_option maxRecDepth 8000

def zxOk (e n : Int) : Bool := decide ((e = 0 ∧ n = 0) ∨ (1 ≤ e ∧ e ≤ 2147483647 ∧ 1 ≤ n))

set_option maxHeartbeats 400000 in
theorem isZxid_any (e n : Int) (w : World) (h0 : 0 ≤ e) (h2 : 0 ≤ n) :
    Calls Tryz.prog 141 #[zx e n] w fun r w' => r = .returned (.bool (zxOk e n)) ∧ Below w.heap.size w w' := by
  have hg : Tryz.prog.eqGuardType Tryz.prog.depth 27 = false := by kernel_rfl
  have hB := one_alloc w
  have hq := eqZx e n 0 0
  by_cases hz : e = 0 ∧ n = 0
  · rw [decide_eq_true hz] at hq
    have hr : zxOk e n = true := by unfold zxOk; simp [hz]
    obtain ⟨rfl, rfl⟩ := hz
    rw [hr]
    clear h0 h2 hr
    go_enter Tryz.func141, Tryz.ntmps141
    go_wp2
    go_ret
    exact ⟨rfl, hB _⟩
  · rw [decide_eq_false hz] at hq
    have hr : zxOk e n = decide (1 ≤ e ∧ e ≤ 2147483647 ∧ 1 ≤ n) := by
      unfold zxOk; congr 1; simp; exact fun h1 h2 => absurd ⟨h1, h2⟩ hz
    rw [hr]
    have HZ : Hid (¬ (e = 0 ∧ n = 0)) := hz
    clear hz hr
    go_enter Tryz.func141, Tryz.ntmps141
    go_wp2_with fail
    refine (isEpoch_any e _ h0).mono ?_
    rintro r w1 ⟨rfl, rfl⟩
    by_cases he : 1 ≤ e ∧ e ≤ 2147483647
    · rw [decide_eq_true he]
      go_wp2
      go_ret
      refine ⟨?_, hB _⟩
      simp [he]
    · rw [decide_eq_false he]
      go_wp2
      go_ret
      refine ⟨?_, hB _⟩
      have hf : decide (1 ≤ e ∧ e ≤ 2147483647 ∧ 1 ≤ n) = false := by simp; omega
      rw [hf]
      rfl

abbrev orig (s b m : Int) : Value := .agg #[.int .i8 s, .int .u32 b, .int .i64 m]
def origOk (s m : Int) : Bool := decide (0 ≤ s ∧ s < 7 ∧ 0 ≤ m)

set_option maxHeartbeats 400000 in
theorem isOrigin_any (s b m : Int) (w : World) :
    Calls Tryz.prog 142 #[orig s b m] w fun r w' => r = .returned (.bool (origOk s m)) ∧ Below w.heap.size w w' := by
  have hB := one_alloc w
  go_enter Tryz.func142, Tryz.ntmps142
  go_wp2
  all_goals (go_ret; refine ⟨?_, hB _⟩; unfold origOk; simp [*]; try omega)

abbrev lay (last wo : Int) : Value := .agg #[.int .i8 last, .int .u16 wo]

theorem proposed_any (w : World) : Calls Tryz.prog 143 #[] w fun r w' => r = .returned (lay 8 0) ∧ Below w.heap.size w w' := by
  have hB := one_alloc w
  go_enter Tryz.func143, Tryz.ntmps143
  go_wp2
  exact bodyPost_ret (v := lay 8 0) (by simp [results, Tryz.results143, go_sem]) rfl ⟨rfl, hB _⟩

theorem within_any (w : World) : Calls Tryz.prog 174 #[] w fun r w' => r = .returned (lay 5 320) ∧ Below w.heap.size w w' := by
  have hB := one_alloc w
  go_enter Tryz.func174, Tryz.ntmps174
  go_wp2
  exact bodyPost_ret (v := lay 5 320) (by simp [results, Tryz.results174, go_sem]) rfl ⟨rfl, hB _⟩

/-- A field's bit, where it is on. -/
def bz (n : Int) (b : Bool) : Int := if b then n else 0

theorem bit_any (n : Int) (b : Bool) (w : World) :
    Calls Tryz.prog 194 #[.int .u16 n, .bool b] w fun r w' => r = .returned (.int .u16 (bz n b)) ∧ w' = w := by
  go_enter Tryz.func194, Tryz.ntmps194
  cases b <;> go_wp2 <;> (go_ret; exact ⟨rfl, rfl⟩)

def need (k : Int) : Int := if k = 6 then 512 else if k = 7 then 128 else if k = 8 then 64 else 0

theorem needed_any (k : Int) (w : World) :
    Calls Tryz.prog 166 #[.int .i8 k] w fun r w' => r = .returned (.int .u16 (need k)) ∧ w' = w := by
  go_enter Tryz.func166, Tryz.ntmps166
  go_wp2
  all_goals (go_ret; refine ⟨?_, rfl⟩; unfold need; simp at *; simp [*])

/-- The table of what each kind names stands. -/
def Nam (w : World) : Prop := Lib.TabIs Tryz.prog w "lagoon/txn.named" .u16 [0, 375, 329, 331, 333, 329, 832, 128, 64, 321, 321, 321, 321]
theorem nam_global : Tryz.prog.globalNamed "lagoon/txn.named" = some 1 := by kernel_rfl
theorem Nam.below {B : Nat} {w w' : World} (h : Nam w) (hb : Below B w w') (hB : 1 < B) : Nam w' := var?_below hb nam_global hB h
theorem Nam.lt {w : World} (h : Nam w) : 1 < w.heap.size := by
  have := World.block_lt_of_cell? w _ (Lib.TabIs.cell h nam_global 0 (by decide)); simpa using this

def tabN (k : Int) : Int := ([0, 375, 329, 331, 333, 329, 832, 128, 64, 321, 321, 321, 321] : List Int).getD k.toNat 0

/-- What a kind names there. -/
def nms (last wo k : Int) : Int := if k < 1 ∨ last < k then 0 else bits .andNot .u16 (tabN k) wo

set_option maxHeartbeats 400000 in
theorem names_any (last wo k : Int) (w : World) (hn : Nam w) (hl : last ≤ 12) :
    Calls Tryz.prog 164 #[lay last wo, .int .i8 k] w fun r w' => r = .returned (.int .u16 (nms last wo k)) ∧ Below w.heap.size w w' := by
  have hB := one_alloc w
  by_cases hk : k < 1 ∨ last < k
  · have hr : nms last wo k = 0 := by unfold nms; rw [if_pos hk]
    rw [hr]
    clear hr hn
    go_enter Tryz.func164, Tryz.ntmps164
    go_wp2
    all_goals first | (go_ret; exact ⟨rfl, hB _⟩) | (exfalso; omega)
  · have hr : nms last wo k = bits .andNot .u16 (tabN k) wo := by unfold nms; rw [if_neg hk]
    rw [hr]
    have hc : w.cell? ⟨1, k.toNat, none⟩ = some (.int .u16 (tabN k)) := by
      have := Lib.TabIs.cell hn nam_global k.toNat (by simp; omega)
      rw [this]
      unfold tabN
      rfl
    have hlt := hn.lt
    have h1 : 1 ≤ k := by omega
    have h2 : k ≤ last := by omega
    clear hr hk hn
    generalize tabN k = t at *
    have hc1 : (w.alloc (.cells #[.int .i8 last, .int .u16 wo] 174)).cell? ⟨1, k.toNat, none⟩ = some (.int .u16 t) := by
      rw [World.cell?_alloc_lt _ _ _ hlt]; exact hc
    have hk0 : 0 ≤ k := by omega
    have hk13 : k < 13 := by omega
    clear hc
    go_enter Tryz.func164, Tryz.ntmps164
    go_wp2
    go_quiet (fail)
    go_wp2
    go_ret
    exact ⟨rfl, below_drewN (hB _) _⟩

/-- What of a request is not zero, as bits. -/
def fillz (p d a v e s z t o q : Bool) : Int :=
  bits .or .u16 (bits .or .u16 (bits .or .u16 (bits .or .u16 (bits .or .u16 (bits .or .u16 (bits .or .u16 (bits .or .u16 (bits .or .u16 (bz 1 p) (bz 2 d)) (bz 4 a)) (bz 8 v)) (bz 16 e)) (bz 32 s)) (bz 64 z)) (bz 128 t)) (bz 256 o)) (bz 512 q)

set_option maxHeartbeats 1000000 in
theorem filled_any (k : Int) (s : ByteArray) (da aa wa oa : Option Addr) (dl dc al ac wl wc ol oc : Nat) (ver : Int) (eph seq : Bool) (ses tmo : Int) (w : World) :
    Calls Tryz.prog 165 #[.agg #[.int .i8 k, .string s, .slice da dl dc, .slice aa al ac, .int .i32 ver, .bool eph, .bool seq, .int .i64 ses, .int .i32 tmo, .slice wa wl wc, .slice oa ol oc]] w
      fun r w' => r = .returned (.int .u16 (fillz (!s.toList.isEmpty) (decide (0 < dl)) (decide (0 < al)) (ver != 0) eph seq (ses != 0) (tmo != 0) (decide (0 < wl)) (decide (0 < ol)))) ∧ Below w.heap.size w w' := by
  have hB := one_alloc w
  go_enter Tryz.func165, Tryz.ntmps165
  go_wp2
  go_quiet ((go_at_call 194; exact Calls.quiet_of_same (bit_any _ _ _)))
  go_wp2
  go_ret
  refine ⟨?_, below_drewN (hB _) _⟩
  rfl

/-- An id that may be. -/
def idOk (x : IdD) : Bool := decide (x.scheme.size ≤ 24 ∧ x.name.size ≤ 24)

set_option maxHeartbeats 400000 in
theorem isId_any (x : IdD) (w : World) :
    Calls Tryz.prog 198 #[.agg #[.string x.scheme, .string x.name]] w fun r w' => r = .returned (.bool (idOk x)) ∧ Below w.heap.size w w' := by
  have hB := one_alloc w
  go_enter Tryz.func198, Tryz.ntmps198
  go_wp2
  all_goals (go_ret; refine ⟨?_, hB _⟩; unfold idOk; simp; first | omega | (rw [decide_eq_true (show x.scheme.size ≤ 24 by omega)]; simp; omega))

set_option maxHeartbeats 400000 in
theorem isEntry_any (x : EnD) (w : World) :
    Calls Tryz.prog 196 #[.agg #[.int .i8 x.perms, .string x.id.scheme, .string x.id.name]] w fun r w' => r = .returned (.bool (idOk x.id)) ∧ Below w.heap.size w w' := by
  have hB := one_alloc w
  go_enter Tryz.func196, Tryz.ntmps196
  go_wp2_with fail
  refine (isId_any x.id _).mono ?_
  rintro r w1 ⟨rfl, b1⟩
  have HB : Hid (Below w.heap.size w w1) := (hB _).trans (b1.mono (by simp))
  clear b1
  go_wp2
  go_ret
  exact ⟨rfl, HB.out⟩
end Go.Proofs.YtgjjcmhlmdfccaaGreatDoor
