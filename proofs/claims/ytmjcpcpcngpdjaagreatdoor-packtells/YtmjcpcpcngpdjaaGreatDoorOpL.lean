/- A list of calls (the statements' Op) in memory, and the statements' long. -/
import Derived.Test.YtmjcpcpcngpdjaaGreatDoorPut3
import Derived.Deep.QuietTactic
import Derived.BigQuiet
namespace Go.Proofs.YtmjcpcpcngpdjaaGreatDoor
open Go.RowKit
set_option maxRecDepth 8000

/-- A call as it stands in a list: its bytes are ys, seen through a slice from ao on with room cap. -/
structure OpD where
  kind : Int
  on : Int
  n : Int
  x : Nat
  s : ByteArray
  ao : Option Addr
  cap : Nat
  ys : List Int

def OpD.size (o : OpD) : Nat := 1 + o.s.size + o.ys.length
def opSum : List OpD → Nat
  | [] => 0
  | o :: r => o.size + opSum r

theorem opSum_append (a b : List OpD) : opSum (a ++ b) = opSum a + opSum b := by
  induction a with
  | nil => simp [opSum]
  | cons o r ih => simp only [List.cons_append, opSum, ih]; omega
theorem opSum_next {os : List OpD} {k : Nat} (h : k < os.length) : opSum (os.take (k + 1)) = opSum (os.take k) + os[k].size := by
  rw [List.take_succ_eq_append_getElem h, opSum_append]; simp [opSum]
theorem opSum_take (os : List OpD) (k : Nat) : opSum (os.take k) ≤ opSum os := by
  conv => rhs; rw [← List.take_append_drop k os, opSum_append]
  omega

/-- The six cells of a call. -/
structure SeesOp (w : World) (b off : Nat) (o : OpD) : Prop where
  c0 : w.cell? ⟨b, off, none⟩ = some (.int .i64 o.kind)
  c1 : w.cell? ⟨b, off + 1, none⟩ = some (.int .i64 o.on)
  c2 : w.cell? ⟨b, off + 2, none⟩ = some (.int .i64 o.n)
  c3 : w.cell? ⟨b, off + 3, none⟩ = some (.float .f64 o.x)
  c4 : w.cell? ⟨b, off + 4, none⟩ = some (.string o.s)
  c5 : w.cell? ⟨b, off + 5, none⟩ = some (.slice o.ao o.ys.length o.cap)
  sb : o.s.size ≤ 140737488355328
  yb : o.ys.length ≤ 140737488355328

/-- The slice value leads to the calls os. -/
def SeesOps (w : World) (v : Value) (os : List OpD) : Prop :=
  ∃ (ao : Option Addr) (cap : Nat), v = .slice ao os.length cap ∧ os.length ≤ cap ∧ cap ≤ maxLen ∧ (os = [] ∨ ∃ b off, ao = some ⟨b, off, none⟩ ∧ ∀ i (h : i < os.length), SeesOp w b (off + i * 6) os[i])

set_option maxHeartbeats 400000 in
theorem long_any (v : Value) (os : List OpD) (w : World) (h : SeesOps w v os) :
    Calls Tryz.prog 6 #[v] w fun e w' => ∃ r, e = .returned (.bool r) ∧ (r = false → opSum os ≤ 67108864) ∧ ∃ m, w' = w.drewN m := by
  obtain ⟨ao, cap, rfl, hlc, hcm, h3⟩ := h
  unfold maxLen at hcm
  go_enter Tryz.func6, Tryz.ntmps6
  go_wp2
  go_loopw [3, 4] (fun n i wr => ∃ k m : Nat, k ≤ os.length ∧ i = .int .i64 k ∧ n = .int .i64 (opSum (os.take k)) ∧ wr = w.drewN m) (fun _ i _ => os.length - (intOf i).toNat)
  case atStart => exact ⟨0, 0, Nat.zero_le _, rfl, rfl, rfl⟩
  case round =>
    obtain ⟨k, m, hk, rfl, rfl, rfl⟩ := hrel
    by_cases hlt : k < os.length
    · rcases h3 with h3 | ⟨b, off, rfl, h3⟩
      · subst h3; simp at hlt
      have hN : Hid (opSum (os.take (k + 1)) = opSum (os.take k) + os[k].size) := opSum_next hlt
      by_cases hle : opSum (os.take k) ≤ 67108864
      · have c4 := (h3 k hlt).c4
        have c5 := (h3 k hlt).c5
        have sb := (h3 k hlt).sb
        have yb := (h3 k hlt).yb
        have hz : os[k].size = 1 + os[k].s.size + os[k].ys.length := rfl
        have HZ : Hid (os[k].size = 1 + os[k].s.size + os[k].ys.length) := hz
        clear h3 hz
        generalize os[k].s = s at *
        generalize os[k].ys.length = l at *
        generalize os[k].ao = ao at *
        generalize os[k].cap = c at *
        generalize hq : opSum (os.take k) = q at *
        go_wp2
        go_quiet (fail)
        all_goals go_wp2
        all_goals go_roundw
        case rel => exact ⟨k + 1, _, by omega, by go_num, by rw [hN.out, HZ.out]; go_num, rfl⟩
        case measure => simp [intOf]; omega
      · clear h3
        generalize opSum (os.take k) = q at *
        go_wp2
        go_ret
        exact ⟨_, rfl, fun h => by simp at h, _, rfl⟩
    · obtain rfl : k = os.length := by omega
      rw [List.take_length]
      have hT : Hid (opSum os ≤ opSum os) := Nat.le_refl _
      generalize hq : opSum os = q at *
      go_wp2
      go_ret
      exact ⟨_, rfl, fun h => by simp at h; omega, _, rfl⟩

end Go.Proofs.YtmjcpcpcngpdjaaGreatDoor
