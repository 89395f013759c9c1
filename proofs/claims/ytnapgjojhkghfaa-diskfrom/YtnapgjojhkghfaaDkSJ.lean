/- What pack.Sum and EqBytes of lagoonref00 answer: the Adler-32 sum of the bytes that are given; whether two lists of bytes are the same. -/
import Derived.Test.YtnapgjojhkghfaaProg
import Derived.Test.YtnapgjojhkghfaaDkPJ
import Derived.Test.YtnapgjojhkghfaaDkRJ
namespace Go.Proofs.Ytnapgjojhkghfaa
open Go.RowKit
set_option maxRecDepth 8000

set_option maxHeartbeats 400000 in
theorem eqBytes_any (v u : Value) (xs ys : List Int) (w : World) (h : Sees w v xs) (g : Sees w u ys) :
    Calls Try.prog 20 #[v, u] w fun e w' => e = .returned (.bool (decide (xs = ys))) ∧ ∃ n, w' = w.drewN n := by
  obtain ⟨ao, cap, rfl, hlc, hcm, _, h3⟩ := h
  obtain ⟨bo, cbp, rfl, glc, gcm, _, g3⟩ := g
  unfold maxLen at hcm gcm
  by_cases hl : xs.length = ys.length
  · have hl1 : xs.length ≤ ys.length := by omega
    have hl2 : ys.length ≤ xs.length := by omega
    have hn0 : ((xs.length : Int) != (ys.length : Int)) = false := by simp; omega
    clear hl
    go_enter Try.func20, Try.ntmps20
    go_wp2
    go_loopw [5] (fun i wr => ∃ k m : Nat, k ≤ xs.length ∧ i = .int .i64 k ∧ xs.take k = ys.take k ∧ wr = w.drewN m) (fun i _ => xs.length - (intOf i).toNat)
    case atStart => exact ⟨0, 0, Nat.zero_le _, rfl, rfl, rfl⟩
    case round =>
      obtain ⟨k, m, hk, rfl, heq, rfl⟩ := hrel
      have HE : Hid _ := heq
      clear heq
      by_cases hlt : k < xs.length
      · rcases h3 with h3 | ⟨b, off, rfl, h3⟩
        · subst h3; simp at hlt
        · rcases g3 with g3 | ⟨b', off', rfl, g3⟩
          · have : ys.length = 0 := by rw [g3]; rfl
            omega
          · have hlt' : k < ys.length := by omega
            have hc := h3 k hlt
            have gc := g3 k hlt'
            have HN : Hid _ := take_next_eq hlt hlt' HE.out
            have HD : Hid _ := ne_of_nth (xs := xs) (ys := ys) k
            clear h3 g3
            generalize xs.getD k 0 = x at *
            generalize ys.getD k 0 = y at *
            by_cases hxy : x = y
            · subst hxy
              go_wp2
              go_region
              all_goals go_wp2
              all_goals go_roundw
              case rel => exact ⟨k + 1, _, by omega, by go_num, HN.out trivial, rfl⟩
              case measure => simp [intOf]; omega
            · have hne : (x != y) = true := by simp [hxy]
              clear hxy
              go_wp2
              go_region
              all_goals go_wp2
              all_goals go_ret
              have hxy : x ≠ y := by simpa using hne
              exact ⟨by rw [decide_eq_false (HD.out hxy)]; rfl, _, rfl⟩
      · have he : xs = ys := by
          have := HE.out
          rw [List.take_of_length_le (by omega), List.take_of_length_le (by omega)] at this
          exact this
        subst he
        go_wp2
        go_ret
        exact ⟨by simp, _, rfl⟩
  · have hn : ((xs.length : Int) != (ys.length : Int)) = true := by simp; omega
    have hq : xs ≠ ys := fun e => hl (by rw [e])
    have HQ : Hid _ := hq
    clear hl hq
    go_enter Try.func20, Try.ntmps20
    go_wp2
    go_ret
    exact ⟨by rw [decide_eq_false HQ.out]; rfl, 0, rfl⟩

end Go.Proofs.Ytnapgjojhkghfaa

/- DiskCrash's parts: what an image holds, kept; Left. -/
namespace Go.Proofs.Ytnapgjojhkghfaa
open Go.RowKit Go.Shelf
set_option maxRecDepth 8000

theorem ImgAt.kept {w w' : World} {S : Nat → Prop} {B : Nat} {v : Value} {fs : List FiD} {vs : List Value} (h : ImgAt w B v fs vs) (hk : Kept w w' S) (hS : ∀ k, S k → k < B ∨ w.heap.size ≤ k) : ImgAt w' B v fs vs := by
  have hb : ∀ {e : TypeId} {z : Nat} {u : Value} {n : Nat} {xs : List Value}, w.ownsRow B e z u n xs → ∀ k, u.ownBlock = some k → ¬ S k := by
    intro e z u n xs ho k hko hs
    obtain ⟨_, ⟨rfl, _⟩ | ⟨g, cap, cur, rfl, h2, h3, _⟩⟩ := ho
    · cases hko
    · have hgk : g = k := by simpa [Value.ownBlock] using hko
      have hgl := lt_of_block h3
      rcases hS k hs with e | e <;> omega
  exact ⟨h.len, row_kept' h.own hk (hb h.own), fun i u f hu hf => row_kept' (h.bys i u f hu hf) hk (hb (h.bys i u f hu hf))⟩

theorem imgC_at (fs : List FiD) (vs : List Value) (h : vs.length = fs.length) (i : Nat) (hi : i < fs.length) (j : Nat) (hj : j < 3) : (imgC fs vs)[i * 3 + j]? = (fiC fs[i] (vs[i]'(by omega)))[j]? := by
  unfold imgC
  induction fs generalizing vs i with
  | nil => simp at hi
  | cons f fs ih =>
    cases vs with
    | nil => simp at h
    | cons u vs =>
      simp only [List.zipWith_cons_cons, List.flatten_cons]
      cases i with
      | zero => rw [Nat.zero_mul, Nat.zero_add, List.getElem?_append_left (by simp; omega)]; rfl
      | succ i =>
        rw [List.getElem?_append_right (by simp; omega)]
        have := ih vs (by simpa using h) i (by simpa using hi)
        simp only [List.length_cons, List.length_nil]
        rw [show (i + 1) * 3 + j - (0 + 1 + 1 + 1) = i * 3 + j by omega, this]
        rfl

/-- The cells of a file of an image. -/
theorem ImgAt.cells {w : World} {B : Nat} {g n c : Nat} {fs : List FiD} {vs : List Value} (h : ImgAt w B (.slice (some ⟨g, 0, none⟩) n c) fs vs) (i : Nat) (hi : i < fs.length) : ∃ u, vs[i]? = some u ∧ w.cell? ⟨g, i * 3, none⟩ = some (.string fs[i].name) ∧ w.cell? ⟨g, i * 3 + 1, none⟩ = some u ∧ w.cell? ⟨g, i * 3 + 2, none⟩ = some (.int .i64 fs[i].dur) ∧ Owns w B u fs[i].bytes := by
  obtain ⟨_, ⟨e, _⟩ | ⟨g', cap, cur, e, _, h3, h4, _, h6, h7⟩⟩ := h.own
  · cases e
  obtain ⟨rfl, _, rfl⟩ : g = g' ∧ n = fs.length ∧ c = cap := by simpa using e
  have hv : i < vs.length := by rw [h.len]; exact hi
  have hat : ∀ j, j < 3 → w.cell? ⟨g, i * 3 + j, none⟩ = (fiC fs[i] vs[i])[j]? := fun j hj => by
    rw [cell_of_row w g _ _ _ _ h3, ← imgC_at fs vs h.len i hi j hj, ← h7, List.getElem?_take, if_pos (by omega), Array.getElem?_toList]
  exact ⟨vs[i], List.getElem?_eq_getElem hv, hat 0 (by omega), hat 1 (by omega), hat 2 (by omega), h.bys i _ _ (List.getElem?_eq_getElem hv) (List.getElem?_eq_getElem hi)⟩

theorem left_any (t k : Int) (w : World) (ht : 0 ≤ t) : Calls Try.prog 55 #[.int .i64 t, .int .i64 k] w fun e w' => e = .returned (.int .i64 (min (max k 0) t)) ∧ w' = w := by
  by_cases h0 : k < 0
  · have hd : decide (k < 0) = true := decide_eq_true h0
    have e : min (max k 0) t = 0 := by omega
    rw [e]
    go_enter Try.func55, Try.ntmps55
    go_wp2_with fail
    go_ret
    exact ⟨rfl, rfl⟩
  · have hd : decide (k < 0) = false := decide_eq_false h0
    by_cases h1 : k > t
    · have hd1 : decide (k > t) = true := decide_eq_true h1
      have e : min (max k 0) t = t := by omega
      rw [e]
      clear e
      go_enter Try.func55, Try.ntmps55
      go_wp2_with fail
      go_ret
      exact ⟨rfl, rfl⟩
    · have hd1 : decide (k > t) = false := decide_eq_false h1
      have e : min (max k 0) t = k := by omega
      rw [e]
      clear e
      go_enter Try.func55, Try.ntmps55
      go_wp2_with fail
      go_ret
      exact ⟨rfl, rfl⟩

theorem off_start (D : DkD) (ks : List Int) : (D.off.start ks).on = true ∧ (D.off.start ks).files = lossF D.files ks := by
  unfold DkD.off
  split
  · unfold DkD.start; exact ⟨rfl, rfl⟩
  · rename_i h
    have h' : D.on = false := by simpa using h
    unfold DkD.start
    rw [h']
    exact ⟨rfl, rfl⟩
end Go.Proofs.Ytnapgjojhkghfaa
