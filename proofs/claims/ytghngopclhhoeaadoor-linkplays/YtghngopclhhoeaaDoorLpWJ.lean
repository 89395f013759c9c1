/- LinkPlays: the last Bag, of all that both Worlds kept. -/
import Derived.Test.YtghngopclhhoeaaDoorLpVJ
namespace Go.Proofs.YtghngopclhhoeaaDoor
open Go.RowKit
set_option maxRecDepth 8000
set_option linter.unusedSimpArgs false
set_option linter.unusedVariables false

/-- The bytes of what was kept. -/
def psK (Rs : List (Nat × PlR)) : List Pc := Rs.flatMap (fun x => msPc (gFlat x.2.K) x.2.K.length)
theorem psK_app (Rs Qs : List (Nat × PlR)) : psK (Rs ++ Qs) = psK Rs ++ psK Qs := by simp [psK]
theorem psK_one (x : Nat × PlR) : psK [x] = msPc (gFlat x.2.K) x.2.K.length := by simp [psK]

theorem pcM_val {v : Value} {a : Option Addr} {n c : Nat} (h : v = .slice a n c) : (pcM v).val = v := by subst h; rfl
section
variable {W : World} {own : Nat → Nat} {p : Nat} {R : PlR}
theorem pcK_at (h : Pq W own p R) {i : Nat} {m : MsG} (hm : R.K[i]? = some m) (hi : i < (msPc (gFlat R.K) R.K.length).length) : (msPc (gFlat R.K) R.K.length)[i] = pcM m.v ∧ (pcM m.v).val = m.v := by
  have hil : i < R.K.length := (List.getElem?_eq_some_iff.1 hm).1
  have h2 := gFlat_at R.K i m hm 2 _ rfl
  obtain ⟨a, c, e⟩ := rowSl (h.ko.own m (List.mem_of_getElem? hm))
  refine ⟨?_, pcM_val e⟩
  rw [msPc_at _ _ i hil]
  simp only [List.getD_eq_getElem?_getD, h2, Option.getD_some]
theorem pcK_mem (h : Pq W own p R) {q : Pc} (hq : q ∈ msPc (gFlat R.K) R.K.length) : Lies W 5 q ∧ q.n ≤ 8192 ∧ ∀ k, q.val.ownBlock = some k → own k = 10 * p + 4 := by
  obtain ⟨i, hi, e⟩ := List.getElem_of_mem hq
  have hil : i < R.K.length := by have := hi; rw [msPc_len] at this; exact this
  obtain ⟨e1, e2⟩ := pcK_at h (List.getElem?_eq_getElem hil) hi
  have hm := List.getElem_mem hil
  have ho := h.ko.own _ hm
  obtain ⟨a, c, ev⟩ := rowSl ho
  have h8 := h.kh _ hm
  have eq : q = pcM R.K[i].v := e.symm.trans e1
  have hn : q = ⟨a, R.K[i].bs.length, c⟩ := by rw [eq, ev]; rfl
  refine ⟨?_, by rw [hn]; exact h8, fun k hk => h.okb _ hm k (by rw [← e2, ← eq]; exact hk)⟩
  rw [hn]
  rw [ev] at ho
  exact lies_ownM ho
theorem pcK_apart (h : Pq W own p R) : ApartPcs (msPc (gFlat R.K) R.K.length) := fun i j hi hj hij k x h1 h2 => by
  have hil : i < R.K.length := by have := hi; rw [msPc_len] at this; exact this
  have hjl : j < R.K.length := by have := hj; rw [msPc_len] at this; exact this
  obtain ⟨a1, a2⟩ := pcK_at h (List.getElem?_eq_getElem hil) hi
  obtain ⟨b1, b2⟩ := pcK_at h (List.getElem?_eq_getElem hjl) hj
  have e1 := foot_ownM h1
  have e2 := foot_ownM h2
  rw [a1, a2] at e1
  rw [b1, b2] at e2
  exact h.kd i j _ _ (List.getElem?_eq_getElem hil) (List.getElem?_eq_getElem hjl) hij k e1 e2
end
section
variable {W : World} {own : Nat → Nat}
theorem psK_mem {Rs : List (Nat × PlR)} (hP : ∀ x ∈ Rs, Pq W own x.1 x.2) {q : Pc} (hq : q ∈ psK Rs) : ∃ x ∈ Rs, Lies W 5 q ∧ q.n ≤ 8192 ∧ ∀ k, q.val.ownBlock = some k → own k = 10 * x.1 + 4 := by
  obtain ⟨x, hx, hq⟩ := List.mem_flatMap.1 hq
  exact ⟨x, hx, pcK_mem (hP x hx) hq⟩
theorem psK_apart : ∀ (Rs : List (Nat × PlR)), (∀ x ∈ Rs, Pq W own x.1 x.2) → (Rs.map Prod.fst).Nodup → ApartPcs (psK Rs)
  | [], _, _ => fun i j hi => by simp [psK] at hi
  | x :: r, hP, hn => by
    rw [List.map_cons, List.nodup_cons] at hn
    have hr := psK_apart r (fun y hy => hP y (List.mem_cons_of_mem _ hy)) hn.2
    have e : psK (x :: r) = msPc (gFlat x.2.K) x.2.K.length ++ psK r := by simp [psK]
    rw [e]
    refine (pcK_apart (hP x (List.mem_cons_self ..))).appM hr (fun a ha b hb k z h1 h2 => ?_)
    obtain ⟨_, _, c1⟩ := pcK_mem (hP x (List.mem_cons_self ..)) ha
    obtain ⟨y, hy, _, _, c2⟩ := psK_mem (fun y hy => hP y (List.mem_cons_of_mem _ hy)) hb
    have d1 := c1 k (foot_ownM h1)
    have d2 := c2 k (foot_ownM h2)
    refine hn.1 ?_
    have : x.1 = y.1 := by omega
    rw [this]
    exact List.mem_map_of_mem hy
/-- The rows of what was kept. -/
def msK (Rs : List (Nat × PlR)) : List Rw := Rs.map (fun x => ⟨x.2.kv, x.2.K.length⟩)
theorem msK_v (Rs : List (Nat × PlR)) : (msK Rs).map Rw.v = Rs.map (fun x => x.2.kv) := by simp [msK]
theorem lastApart {g B : Nat} {bv mv : Value} {Rs : List (Nat × PlR)} (hP : ∀ x ∈ Rs, Pq W own x.1 x.2 ∧ x.1 < 98 ∧ x.2.K.length ≤ 1000000000) (hnd : (Rs.map Prod.fst).Nodup) (hlen : Rs.length ≤ 600) (hb : BagM W g bv mv ((psK Rs).take 600) (Rs.map (fun x => x.2.kv)) B) (ht : Tab W) (hg0 : 0 < W.heap.size) (hgo : ¬ own 0 / 10 < 98) :
    Calls Tryd.prog 11 #[.pointer (some ⟨g, 0, none⟩)] W fun e w' => e = .returned (.bool true) ∧ Kept W w' (fun k => own k / 10 < 98) := by
  have hP1 : ∀ x ∈ Rs, Pq W own x.1 x.2 := fun x hx => (hP x hx).1
  have hps : ∀ q ∈ (psK Rs).take 600, ∀ k, q.val.ownBlock = some k → own k / 10 < 98 := fun q hq k e => by
    obtain ⟨x, hx, _, _, c⟩ := psK_mem hP1 (List.mem_of_mem_take hq)
    have := c k e
    have := (hP x hx).2.1
    omega
  have hat : ∀ j (hj : j < (msK Rs).length), ∃ x, ∃ hx : j < Rs.length, Rs[j] = x ∧ x ∈ Rs ∧ (msK Rs)[j] = ⟨x.2.kv, x.2.K.length⟩ := fun j hj => by
    have hjl : j < Rs.length := by have := hj; simp [msK] at this; exact this
    exact ⟨Rs[j], hjl, rfl, List.getElem_mem hjl, by simp [msK]⟩
  have hms : ∀ k, BlkR (msK Rs) k → own k / 10 < 98 := fun k e => by
    obtain ⟨j, hj, e⟩ := e
    obtain ⟨x, hjl, e1, hx, e2⟩ := hat j hj
    rw [e2] at e
    have := (hP x hx).1.okr k e
    have := (hP x hx).2.1
    omega
  rw [← msK_v] at hb
  refine Calls.mono (bagApart_m g B bv mv _ (msK Rs) (fun j => gFlat ((Rs.map (fun x => x.2.K)).getD j [])) W hb (fun q hq => (psK_mem hP1 (List.mem_of_mem_take hq)).choose_spec.2.1) ((psK_apart Rs hP1 hnd).takeM 600) (by rw [List.length_take]; omega) (fun q hq => by have := (psK_mem hP1 (List.mem_of_mem_take hq)).choose_spec.2.2.1; omega) (fun x hx => ?_) (fun j hj => ?_) (fun i j hi hj hij g1 h1 h2 => ?_) (by simpa [msK] using hlen) (fun j hj => ?_) (fun e => hgo (hms _ e)) ht hg0) ?_
  · obtain ⟨q, hq, e⟩ := feet_ownM hx
    exact hgo (hps q hq _ e)
  · obtain ⟨x, hjl, e1, hx, e2⟩ := hat j hj
    rw [e2]
    have e3 : (Rs.map (fun x => x.2.K)).getD j [] = x.2.K := by
      rw [List.getD_eq_getElem?_getD, List.getElem?_map, List.getElem?_eq_getElem hjl, e1]
      rfl
    show W.ownsRow 0 _ 4 x.2.kv x.2.K.length (gFlat ((Rs.map (fun x => x.2.K)).getD j []))
    rw [e3]
    exact (hP x hx).1.ko.row
  · obtain ⟨x, hil, e1, hx, e2⟩ := hat i hi
    obtain ⟨y, hjl, e3, hy, e4⟩ := hat j hj
    rw [e2] at h1
    rw [e4] at h2
    have c1 := (hP x hx).1.okr g1 h1
    have c2 := (hP y hy).1.okr g1 h2
    have hxy : x.1 = y.1 := by omega
    have hi' : i < (Rs.map Prod.fst).length := by rw [List.length_map]; exact hil
    exact hij ((List.getElem?_inj hi' hnd).1 (by rw [List.getElem?_map, List.getElem?_map, List.getElem?_eq_getElem hil, List.getElem?_eq_getElem hjl, e1, e3]; simp [hxy]))
  · obtain ⟨x, hjl, e1, hx, e2⟩ := hat j hj
    rw [e2]
    have := (hP x hx).2.2
    show x.2.K.length ≤ _
    omega
  · rintro e w' ⟨rfl, w1, hT, hk, _⟩
    refine ⟨rfl, ((turned_keptM hT).mono (fun k hkl e => ?_)).trans hk (fun k _ e => hms k e)⟩
    obtain ⟨q, hq, e⟩ := e
    exact hps q hq k e
end
end Go.Proofs.YtghngopclhhoeaaDoor
