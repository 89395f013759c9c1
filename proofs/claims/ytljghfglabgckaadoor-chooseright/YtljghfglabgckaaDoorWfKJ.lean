/- The bytes of a transaction that may be: at most 4096, each a byte. No Go function is walked here. -/
import Derived.Test.YtljghfglabgckaaDoorPartsJ
namespace Go.Proofs.YtljghfglabgckaaDoor
open Go.RowKit
set_option maxRecDepth 8000

theorem acB_t (l : List EnD) (h : ∀ x ∈ l, x.id.scheme.size ≤ 24 ∧ x.id.name.size ≤ 24) : (acB l).length ≤ 57 * l.length := by
  induction l with
  | nil => simp [acB]
  | cons x l ih =>
    have e : acB (x :: l) = enB x ++ acB l := by simp [acB]
    have h1 := h x (by simp)
    have h2 := ih (fun y hy => h y (by simp [hy]))
    rw [e, List.length_append, enB, List.length_append, idB, List.length_append, txtB_len, txtB_len]
    simp only [List.length_cons, List.length_nil]
    omega
theorem idsB_t (l : List IdD) (h : ∀ x ∈ l, x.scheme.size ≤ 24 ∧ x.name.size ≤ 24) : (idsB l).length ≤ 56 * l.length := by
  induction l with
  | nil => simp [idsB]
  | cons x l ih =>
    have e : idsB (x :: l) = idB x ++ idsB l := by simp [idsB]
    have h1 := h x (by simp)
    have h2 := ih (fun y hy => h y (by simp [hy]))
    rw [e, List.length_append, idB, List.length_append, txtB_len, txtB_len, List.length_cons]
    omega

theorem encIn_t (r : Rq) (h : r.inOk = true) : (encIn r).length ≤ 403 := by
  cases r with
  | mk f n ops =>
    obtain ⟨h1, h5, hbd⟩ := inOk_inv h
    have hb := bdOk_inv hbd
    have ha := acB_t f.acl hb.2.2.2.1
    have ht := txtB_len f.path
    rw [encIn_mk]
    split
    · simp [encP, be4]; omega
    split
    · simp [encP, be4]; omega
    split
    · simp [encP, be4]; omega
    · simp [encP, be4]; omega

theorem opsB_t {n : Nat} (ops : Fin n → Rq) (hok : ∀ i, (ops i).inOk = true) : ∀ k, k ≤ n → (opsB ops k).length ≤ 403 * k
  | 0, _ => by simp [opsB]
  | k + 1, h => by
    have h1 := opsB_t ops hok k (by omega)
    have h2 := encIn_t (ops ⟨k, by omega⟩) (hok _)
    rw [opsB_next ops k (by omega), List.length_append]
    omega

theorem encOut_t (r : Rq) (hok : mayP 8 0 r = true) : (encOut r).length ≤ 3500 := by
  cases r with
  | mk f n ops =>
    obtain ⟨h1, h2, h3, h4, h5⟩ := mayP_inv hok
    have hb := bdOk_inv h3
    have ha := acB_t f.acl hb.2.2.2.1
    have hi := idsB_t f.who hb.2.2.2.2.2.2.2.2
    have ht := txtB_len f.path
    have ho := opsB_t ops h5 n (Nat.le_refl _)
    rw [encOut_mk]
    split
    · simp [encP, be4, be8]; omega
    split
    · simp [encP, be4, be8]; omega
    split
    · simp [encP, be4, be8]; omega
    split
    · simp [encP, be4, be8]; omega
    split
    · simp [encP, be4]
    split
    · simp [encP, be4, be8]
    · simp [encP, be4, be8]; omega

theorem txB_t (t : TxD) (hok : txOk t = true) : (txB t).length ≤ 4096 := by
  have hm : mayP 8 0 t.rq = true := by
    simp only [txOk, Bool.and_eq_true] at hok
    exact hok.2
  have := encOut_t t.rq hm
  simp [txB, headB, be4, be8]
  omega

theorem byts4 (n : Int) (h0 : 0 ≤ n) (h1 : n < 4294967296) : Byts (be4 n) := by
  intro x hx
  simp only [be4, List.mem_cons, List.not_mem_nil, or_false] at hx
  rcases hx with rfl | rfl | rfl | rfl <;> omega
theorem byts8 (n : Int) (h0 : 0 ≤ n) (h1 : n < 18446744073709551616) : Byts (be8 n) := by
  unfold be8
  exact (byts4 _ (by omega) (by omega)).append (byts4 _ (by omega) (by omega))
theorem byts_txt (s : ByteArray) : Byts (txt s) := by
  intro x hx
  unfold txt at hx
  obtain ⟨b, _, rfl⟩ := List.mem_map.1 hx
  have := b.toNat_lt
  omega
theorem byts_txtB (s : ByteArray) (h : s.size ≤ 2147483647) : Byts (txtB s) := by
  have := txt_len s
  exact (byts4 _ (by omega) (by omega)).append (byts_txt s)
theorem byts_one (x : Int) (h0 : 0 ≤ x) (h1 : x ≤ 255) : Byts [x] := fun y hy => by
  obtain rfl : y = x := by simpa using hy
  exact ⟨h0, h1⟩
theorem byts_idsB (l : List IdD) (h : ∀ x ∈ l, x.scheme.size ≤ 24 ∧ x.name.size ≤ 24) : Byts (idsB l) := by
  intro y hy
  unfold idsB at hy
  obtain ⟨x, hx, hxy⟩ := List.mem_flatMap.1 hy
  have h1 := h x hx
  exact ((byts_txtB x.scheme (by omega)).append (byts_txtB x.name (by omega))) y hxy
theorem byts_acB (l : List EnD) (h : ∀ x ∈ l, x.id.scheme.size ≤ 24 ∧ x.id.name.size ≤ 24) : Byts (acB l) := by
  intro y hy
  unfold acB at hy
  obtain ⟨x, hx, hxy⟩ := List.mem_flatMap.1 hy
  have h1 := h x hx
  unfold enB at hxy
  rcases List.mem_append.1 hxy with hxy | hxy
  · obtain rfl : y = x.perms % 256 := by simpa using hxy
    omega
  · exact ((byts_txtB x.id.scheme (by omega)).append (byts_txtB x.id.name (by omega))) y hxy
theorem byts_if {c : Bool} {a : List Int} (h : Byts a) : Byts (if c then a else []) := by
  cases c
  · intro x hx; simp at hx
  · exact h

theorem byts_encP (p d a v e z t o : Bool) (f : RqF) (more : List Int) (hbd : bdOk f = true) (hg : f.good) (hm : Byts more) : Byts (encP p d a v e z t o f more) := by
  have hb := bdOk_inv hbd
  have hk := hg
  unfold encP
  refine Byts.append (Byts.append (Byts.append (Byts.append (Byts.append (Byts.append (Byts.append (Byts.append (Byts.append ?_ ?_) ?_) ?_) ?_) ?_) ?_) ?_) ?_) hm
  · exact byts_one _ (by omega) (by omega)
  · exact byts_if (byts_txtB _ (by omega))
  · exact byts_if ((byts4 _ (by omega) (by omega)).append hg.byts)
  · exact byts_if ((byts4 _ (by omega) (by omega)).append (byts_acB _ hb.2.2.2.1))
  · exact byts_if (byts4 _ (by have := hg.v0; unfold up32; omega) (by have := hg.v1; unfold up32; omega))
  · exact byts_if ((byts_one _ (by unfold b2i; split <;> omega) (by unfold b2i; split <;> omega)).append (byts_one _ (by unfold b2i; split <;> omega) (by unfold b2i; split <;> omega)))
  · exact byts_if (byts8 _ (by have := hg.s0; unfold up64; omega) (by have := hg.s1; unfold up64; omega))
  · exact byts_if (byts4 _ (by have := hg.t0; unfold up32; omega) (by have := hg.t1; unfold up32; omega))
  · exact byts_if ((byts4 _ (by omega) (by omega)).append (byts_idsB _ hb.2.2.2.2.2.2.2.2))

theorem byts_encIn (r : Rq) (h : r.inOk = true) (hg : r.good) : Byts (encIn r) := by
  cases r with
  | mk f n ops =>
    obtain ⟨h1, h5, hbd⟩ := inOk_inv h
    have hn : Byts [] := fun x hx => by simp at hx
    rw [encIn_mk]
    repeat' split
    all_goals exact byts_encP _ _ _ _ _ _ _ _ f [] hbd hg.1 hn

theorem byts_opsB {n : Nat} (ops : Fin n → Rq) (hok : ∀ i, (ops i).inOk = true) (hg : ∀ i, (ops i).good) : ∀ k, k ≤ n → Byts (opsB ops k)
  | 0, _ => fun x hx => by simp [opsB] at hx
  | k + 1, h => by
    rw [opsB_next ops k (by omega)]
    exact (byts_opsB ops hok hg k (by omega)).append (byts_encIn _ (hok _) (hg _))

theorem byts_encOut (r : Rq) (hok : mayP 8 0 r = true) (hg : r.good) : Byts (encOut r) := by
  cases r with
  | mk f n ops =>
    obtain ⟨h1, h2, h3, h4, h5⟩ := mayP_inv hok
    have hn : Byts [] := fun x hx => by simp at hx
    have ho : Byts (be4 (n : Int) ++ opsB ops n) := (byts4 _ (by omega) (by omega)).append (byts_opsB ops h5 hg.2.2 n (Nat.le_refl _))
    rw [encOut_mk]
    repeat' split
    all_goals first | exact byts_encP _ _ _ _ _ _ _ _ f [] h3 hg.1 hn | exact byts_encP _ _ _ _ _ _ _ _ f _ h3 hg.1 ho

theorem byts_txB (t : TxD) (hok : txOk t = true) (hg : t.good) : Byts (txB t) := by
  have hm : mayP 8 0 t.rq = true := by
    simp only [txOk, Bool.and_eq_true] at hok
    exact hok.2
  unfold txB headB
  refine Byts.append (Byts.append (Byts.append (Byts.append (Byts.append ?_ ?_) ?_) ?_) ?_) (byts_encOut t.rq hm hg.rq)
  · exact byts4 _ hg.e0 (by have := hg.e1; omega)
  · exact byts4 _ hg.n0 (by have := hg.n1; omega)
  · exact byts_one _ (by omega) (by omega)
  · exact byts4 _ hg.b0 (by have := hg.b1; omega)
  · exact byts8 _ (by have := hg.m0; unfold up64; omega) (by have := hg.m1; unfold up64; omega)
end Go.Proofs.YtljghfglabgckaaDoor
