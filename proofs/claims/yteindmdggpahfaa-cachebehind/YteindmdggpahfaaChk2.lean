/- What isList of package txn answers, at entries, ids and requests. -/
import Derived.Test.YteindmdggpahfaaChk
namespace Go.Proofs.Yteindmdggpahfaa
open Go.RowKit
set_option maxRecDepth 8000

theorem all_take_next {α : Type} (p : α → Bool) (l : List α) (k : Nat) (h : k < l.length) : (l.take (k + 1)).all p = ((l.take k).all p && p l[k]) := by
  rw [List.take_succ_eq_append_getElem h, List.all_append]; simp

theorem all_bad {α : Type} (p : α → Bool) (l : List α) (k : Nat) (h : k < l.length) (hp : p l[k] = false) : l.all p = false := by
  by_cases ha : l.all p = true
  · rw [List.all_eq_true] at ha
    rw [ha _ (List.getElem_mem h)] at hp
    cases hp
  · simpa using ha

theorem all_fn_next {n : Nat} (p : Fin n → Bool) (k : Nat) (h : k < n) : ((List.ofFn p).take (k + 1)).all id = (((List.ofFn p).take k).all id && p ⟨k, h⟩) := by
  rw [all_take_next id (List.ofFn p) k (by simpa using h)]; simp
theorem all_fn_bad {n : Nat} (p : Fin n → Bool) (k : Nat) (h : k < n) (hp : p ⟨k, h⟩ = false) : (List.ofFn p).all id = false :=
  all_bad id (List.ofFn p) k (by simpa using h) (by simpa using hp)

theorem seesR_form {w : World} {v : Value} {z : Nat} {cs : List (List Value)} (h : SeesR w v z cs) : ∃ a n c, v = .slice a n c := by
  obtain ⟨ao, cap, rfl, _⟩ := h; exact ⟨_, _, _, rfl⟩
theorem sees_form {w : World} {v : Value} {xs : List Int} (h : Sees w v xs) : ∃ a n c, v = .slice a n c := by
  obtain ⟨ao, cap, rfl, _⟩ := h; exact ⟨_, _, _, rfl⟩

theorem rq_forms {w : World} {cs : List Value} {r : Rq} (h : SeesRq w cs r) : ∃ (k : Int) (s : ByteArray) (da : Option Addr) (dl dc : Nat) (aa : Option Addr) (al ac : Nat) (v : Int) (e q : Bool) (z t : Int) (wa : Option Addr) (wl wc : Nat) (oa : Option Addr) (ol oc : Nat),
    cs = [.int .i8 k, .string s, .slice da dl dc, .slice aa al ac, .int .i32 v, .bool e, .bool q, .int .i64 z, .int .i32 t, .slice wa wl wc, .slice oa ol oc] := by
  cases h with
  | mk f n ops dv av wv ov oc hd ha hw ho hs =>
    obtain ⟨a1, n1, c1, rfl⟩ := sees_form hd
    obtain ⟨a2, n2, c2, rfl⟩ := seesR_form ha
    obtain ⟨a3, n3, c3, rfl⟩ := seesR_form hw
    obtain ⟨a4, n4, c4, rfl⟩ := seesR_form ho
    exact ⟨_, _, _, _, _, _, _, _, _, _, _, _, _, _, _, _, _, _, _, rfl⟩

end Go.Proofs.Yteindmdggpahfaa