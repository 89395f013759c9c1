/- What OfClient and OfEntry of the document's layer 6 answers. -/
import Derived.Test.YtgoiefhhbgollaaGreatDoorQaDJ
import Derived.Lib.Bytealg
import Derived.Lib.CutLaws
namespace Go.Proofs.YtgoiefhhbgollaaGreatDoor
open Go.RowKit
set_option maxRecDepth 8000

theorem eqT (s : ByteArray) (x : Bs) : (s.toList == x) = decide (s.data.toList = x) := by
  rw [Lib.toList_data, Bool.eq_iff_iff]; simp

def sIp : Bs := [105, 112]
def sName : Bs := [110, 97, 109, 101]
def sWorld : Bs := [119, 111, 114, 108, 100]
def sAuth : Bs := [97, 117, 116, 104]
def sAny : Bs := [97, 110, 121, 111, 110, 101]

/-- Just an address. -/
def adrB (l : Bs) : Bool := match adr l 4 with
  | none => false
  | some (_, p) => decide (p = l.length)

/-- An id of a client. -/
def clR (sc nm : Bs) : Bool := if sc = sIp then adrB nm else decide (sc = sName) && nmR nm

set_option maxHeartbeats 1000000 in
theorem ofClient_any (sc nm : ByteArray) (hl : nm.size ≤ 4294967296) (w : World) :
    Calls Tryz.prog 55 #[.agg #[.string sc, .string nm]] w fun e w' => e = .returned (.bool (clR sc.data.toList nm.data.toList)) ∧ Below w.heap.size w w' := by
  have HS : Hid (nm.size = nm.data.toList.length) := size_list nm
  obtain ⟨val, hval⟩ : ∃ val, val = clR sc.data.toList nm.data.toList := ⟨_, rfl⟩
  rw [← hval]
  have HVal : Hid (val = clR sc.data.toList nm.data.toList) := hval
  clear hval
  have e1 := eqT sc [105, 112]
  have e2 := eqT sc [110, 97, 109, 101]
  by_cases h1 : sc.data.toList = sIp
  · rw [decide_eq_true (show sc.data.toList = [105, 112] from h1)] at e1
    have HC : Hid (val = adrB nm.data.toList) := by show _ = _; rw [HVal.out, clR, if_pos h1]
    have HAd : Hid (∀ w, Calls Tryz.prog 92 #[.string nm] w fun e w' => e = .returned (addrV nm.data.toList) ∧ w' = w) := fun w => address_any nm hl w
    cases h4 : adr nm.data.toList 4 with
    | none =>
      have hV : addrV nm.data.toList = .tuple #[.int .i64 0, .int .i64 0, .bool false] := by unfold addrV; rw [h4]
      have HX : Hid (val = false) := by show _ = _; rw [HC.out, adrB, h4]
      rw [hV] at HAd
      clear hV h4 h1 e2
      go_enter Tryz.func55, Tryz.ntmps55
      go_wp2_with fail
      refine (HAd.out _).mono ?_
      rintro e w1 ⟨rfl, rfl⟩
      go_wp2
      all_goals (go_ret; exact ⟨by rw [HX.out]; rfl, (Below.refl _ _).alloc (Nat.le_refl _) _⟩)
    | some x =>
      obtain ⟨a, p⟩ := x
      have hV : addrV nm.data.toList = .tuple #[.int .i64 (a : Int), .int .i64 (p : Int), .bool true] := by unfold addrV; rw [h4]
      have HX : Hid (val = ((p : Int) == (nm.size : Int))) := by
        show _ = _
        rw [HC.out, adrB, h4, HS.out, Bool.eq_iff_iff, beq_iff_eq]
        simp only [decide_eq_true_eq]
        omega
      rw [hV] at HAd
      clear hV h4 h1 e2
      go_enter Tryz.func55, Tryz.ntmps55
      go_wp2_with fail
      refine (HAd.out _).mono ?_
      rintro e w1 ⟨rfl, rfl⟩
      go_wp2
      all_goals (go_ret; exact ⟨by rw [HX.out]; rfl, (Below.refl _ _).alloc (Nat.le_refl _) _⟩)
  · rw [decide_eq_false (show ¬ sc.data.toList = [105, 112] from h1)] at e1
    have HN : Hid (∀ w, Calls Tryz.prog 91 #[.string nm] w fun e w' => e = .returned (.bool (nmR nm.data.toList)) ∧ w' = w) := fun w => name_any nm hl w
    by_cases h2 : sc.data.toList = sName
    · rw [decide_eq_true (show sc.data.toList = [110, 97, 109, 101] from h2)] at e2
      have HX : Hid (val = nmR nm.data.toList) := by show _ = _; rw [HVal.out, clR, if_neg h1, decide_eq_true h2, Bool.true_and]
      rw [← HX.out] at HN
      clear h1 h2 HX
      go_enter Tryz.func55, Tryz.ntmps55
      go_wp2_with fail
      refine (HN.out _).mono ?_
      rintro e w1 ⟨rfl, rfl⟩
      go_wp2
      all_goals (go_ret; exact ⟨rfl, (Below.refl _ _).alloc (Nat.le_refl _) _⟩)
    · rw [decide_eq_false (show ¬ sc.data.toList = [110, 97, 109, 101] from h2)] at e2
      have HX : Hid (val = false) := by show _ = _; rw [HVal.out, clR, if_neg h1, decide_eq_false h2, Bool.false_and]
      clear h1 h2
      go_enter Tryz.func55, Tryz.ntmps55
      go_wp2
      all_goals (go_ret; exact ⟨by rw [HX.out]; rfl, (Below.refl _ _).alloc (Nat.le_refl _) _⟩)

/-- An id of an entry. -/
def enR (sc nm : Bs) : Bool := if sc = sWorld then decide (nm = sAny) else if sc = sIp then (rngR nm).isSome else if sc = sName then nmR nm else decide (sc = sAuth) && decide (nm = [])

set_option maxHeartbeats 1000000 in
theorem ofEntry_any (sc nm : ByteArray) (hl : nm.size ≤ 4294967296) (w : World) :
    Calls Tryz.prog 54 #[.agg #[.string sc, .string nm]] w fun e w' => e = .returned (.bool (enR sc.data.toList nm.data.toList)) ∧ Below w.heap.size w w' := by
  obtain ⟨val, hval⟩ : ∃ val, val = enR sc.data.toList nm.data.toList := ⟨_, rfl⟩
  rw [← hval]
  have HVal : Hid (val = enR sc.data.toList nm.data.toList) := hval
  clear hval
  have e0 := eqT sc [119, 111, 114, 108, 100]
  have e1 := eqT sc [105, 112]
  have e2 := eqT sc [110, 97, 109, 101]
  have e3 := eqT sc [97, 117, 116, 104]
  by_cases h0 : sc.data.toList = sWorld
  · rw [decide_eq_true (show sc.data.toList = [119, 111, 114, 108, 100] from h0)] at e0
    have HX : Hid (val = (nm.toList == [97, 110, 121, 111, 110, 101])) := by show _ = _; rw [HVal.out, enR, if_pos h0, eqT]; rfl
    clear h0 e1 e2 e3
    go_enter Tryz.func54, Tryz.ntmps54
    go_wp2
    all_goals (go_ret; exact ⟨by rw [HX.out]; rfl, (Below.refl _ _).alloc (Nat.le_refl _) _⟩)
  · rw [decide_eq_false (show ¬ sc.data.toList = [119, 111, 114, 108, 100] from h0)] at e0
    by_cases h1 : sc.data.toList = sIp
    · rw [decide_eq_true (show sc.data.toList = [105, 112] from h1)] at e1
      obtain ⟨a, n, hV⟩ : ∃ a n : Int, rngV nm.data.toList = .tuple #[.int .i64 a, .int .i64 n, .bool val] := by
        rw [HVal.out, enR, if_neg h0, if_pos h1]
        unfold rngV
        cases rngR nm.data.toList with
        | none => exact ⟨_, _, rfl⟩
        | some x => exact ⟨_, _, rfl⟩
      have HR : Hid (∀ w, Calls Tryz.prog 90 #[.string nm] w fun e w' => e = .returned (.tuple #[.int .i64 a, .int .i64 n, .bool val]) ∧ w' = w) := fun w => by
        have := range_any nm hl w; rw [hV] at this; exact this
      clear h0 h1 e2 e3 hV
      go_enter Tryz.func54, Tryz.ntmps54
      go_wp2_with fail
      refine (HR.out _).mono ?_
      rintro e w1 ⟨rfl, rfl⟩
      go_wp2
      all_goals (go_ret; exact ⟨rfl, (Below.refl _ _).alloc (Nat.le_refl _) _⟩)
    · rw [decide_eq_false (show ¬ sc.data.toList = [105, 112] from h1)] at e1
      by_cases h2 : sc.data.toList = sName
      · rw [decide_eq_true (show sc.data.toList = [110, 97, 109, 101] from h2)] at e2
        have HN : Hid (∀ w, Calls Tryz.prog 91 #[.string nm] w fun e w' => e = .returned (.bool (nmR nm.data.toList)) ∧ w' = w) := fun w => name_any nm hl w
        have HX : Hid (val = nmR nm.data.toList) := by show _ = _; rw [HVal.out, enR, if_neg h0, if_neg h1, if_pos h2]
        rw [← HX.out] at HN
        clear h0 h1 h2 e3 HX
        go_enter Tryz.func54, Tryz.ntmps54
        go_wp2_with fail
        refine (HN.out _).mono ?_
        rintro e w1 ⟨rfl, rfl⟩
        go_wp2
        all_goals (go_ret; exact ⟨rfl, (Below.refl _ _).alloc (Nat.le_refl _) _⟩)
      · rw [decide_eq_false (show ¬ sc.data.toList = [110, 97, 109, 101] from h2)] at e2
        by_cases h3 : sc.data.toList = sAuth
        · rw [decide_eq_true (show sc.data.toList = [97, 117, 116, 104] from h3)] at e3
          have HX : Hid (val = nm.toList.isEmpty) := by
            show _ = _
            rw [HVal.out, enR, if_neg h0, if_neg h1, if_neg h2, decide_eq_true h3, Bool.true_and, Lib.toList_data, Bool.eq_iff_iff]
            simp
          clear h0 h1 h2 h3
          go_enter Tryz.func54, Tryz.ntmps54
          go_wp2
          all_goals (go_ret; exact ⟨by rw [HX.out]; rfl, (Below.refl _ _).alloc (Nat.le_refl _) _⟩)
        · rw [decide_eq_false (show ¬ sc.data.toList = [97, 117, 116, 104] from h3)] at e3
          have HX : Hid (val = false) := by show _ = _; rw [HVal.out, enR, if_neg h0, if_neg h1, if_neg h2, decide_eq_false h3, Bool.false_and]
          clear h0 h1 h2 h3
          go_enter Tryz.func54, Tryz.ntmps54
          go_wp2
          all_goals (go_ret; exact ⟨by rw [HX.out]; rfl, (Below.refl _ _).alloc (Nat.le_refl _) _⟩)

end Go.Proofs.YtgoiefhhbgollaaGreatDoor
