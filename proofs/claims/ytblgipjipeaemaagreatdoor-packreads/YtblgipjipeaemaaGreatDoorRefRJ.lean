/- The document's own Reader (lagoonref01): what it is in memory, and its reading of numbers. -/
import Derived.Test.YtblgipjipeaemaaGreatDoorReaderAllJ
import Derived.Deep.QuietTactic
import Derived.BigQuiet
namespace Go.Proofs.YtblgipjipeaemaaGreatDoor
open Go.RowKit
set_option maxRecDepth 8000

/-- The document's Reader at block g: its bytes bs, of which p are read, and its fault. -/
def IsQ (w : World) (g : Nat) (v : Value) (bs : List Int) (p : Nat) (f : Int) : Prop :=
  w.heap[g]? = some (.cells #[v, .int .i64 p, .int .i64 f] 83 (0, 0)) ∧ Sees w v bs ∧ p ≤ bs.length ∧ bs.length ≤ 70000000000000 ∧ (bs ≠ [] → v.ownBlock ≠ some g)

/-- What a call of it leaves. -/
def QTo (w : World) (g : Nat) (v : Value) (bs : List Int) (s : Rd) (w' : World) : Prop := ∃ p, bs.drop p = s.rest ∧ IsQ w' g v bs p s.fault ∧ Kept w w' (· = g)

section
variable {w w' : World} {g : Nat} {v : Value} {bs : List Int} {p : Nat} {f : Int}

theorem IsQ.c0 (h : IsQ w g v bs p f) : w.cell? ⟨g, 0, none⟩ = some v := by rw [cell_of_row w g 0 _ _ _ h.1]; rfl
theorem IsQ.c1 (h : IsQ w g v bs p f) : w.cell? ⟨g, 1, none⟩ = some (.int .i64 p) := by rw [cell_of_row w g 1 _ _ _ h.1]; rfl
theorem IsQ.c2 (h : IsQ w g v bs p f) : w.cell? ⟨g, 2, none⟩ = some (.int .i64 f) := by rw [cell_of_row w g 2 _ _ _ h.1]; rfl
theorem IsQ.fr (h : IsQ w g v bs p f) (j : Nat) : w.frozen? ⟨g, j, none⟩ = false := frozen_of_row w g j _ _ h.1

theorem IsQ.kept {S : Nat → Prop} (h : IsQ w g v bs p f) (hk : Kept w w' S) (hg : ¬ S g) (hv : ∀ k, v.ownBlock = some k → ¬ S k) : IsQ w' g v bs p f :=
  ⟨hk.heap h.1 hg, h.2.1.kept hk hv, h.2.2⟩

theorem IsQ.set1 (h : IsQ w g v bs p f) {q : Nat} (hq : q ≤ bs.length) : IsQ (w.setCell ⟨g, 1, none⟩ (.int .i64 q)) g v bs q f := by
  refine ⟨?_, h.2.1.set _ _ h.2.2.2.2, hq, h.2.2.2⟩
  rw [setCell_eq_setRow w g 1 _ _ _ _ h.1, setRow_heap w g _ _ _ _ h.1]; rfl
theorem IsQ.set2 (h : IsQ w g v bs p f) (e : Int) : IsQ (w.setCell ⟨g, 2, none⟩ (.int .i64 e)) g v bs p e := by
  refine ⟨?_, h.2.1.set _ _ h.2.2.2.2, h.2.2⟩
  rw [setCell_eq_setRow w g 2 _ _ _ _ h.1, setRow_heap w g _ _ _ _ h.1]; rfl

theorem QTo.stay (h : IsQ w g v bs p f) (n : Int) : QTo w g v bs ⟨n, bs.drop p, f⟩ w := ⟨p, rfl, h, Kept.refl _ _⟩
end

section
variable (g : Nat) (v : Value) (bs : List Int) (p : Nat) (f : Int) (w : World)

theorem qLeft_any (h : IsQ w g v bs p f) : Calls Tryz.prog 25 #[.pointer (some ⟨g, 0, none⟩)] w fun e w' => e = .returned (.int .i64 ((bs.drop p).length : Nat)) ∧ ∃ m, w' = w.drewN m := by
  have c0 := h.c0
  have c1 := h.c1
  obtain ⟨ao, cap, rfl, _, q2, _, _⟩ := h.2.1
  unfold maxLen at q2
  have hp := h.2.2.1
  have hl := h.2.2.2.1
  have e : ((bs.drop p).length : Int) = (bs.length : Int) - (p : Int) := by rw [List.length_drop]; omega
  rw [e]
  clear h e
  go_enter Tryz.func25, Tryz.ntmps25
  go_wp2
  go_quiet (fail)
  go_wp2
  go_ret
  exact ⟨rfl, _, rfl⟩

theorem qFail_any (e0 : Int) (h : IsQ w g v bs p f) : Calls Tryz.prog 50 #[.pointer (some ⟨g, 0, none⟩), .int .i64 e0] w fun e w' => e = .returned (.tuple #[]) ∧ QTo w g v bs ⟨0, bs.drop p, if f = 0 then e0 else f⟩ w' := by
  have c2 := h.c2
  have f2 := h.fr 2
  have H : Hid (IsQ w g v bs p f) := h
  clear h
  by_cases hf : f = 0
  · subst hf
    rw [if_pos rfl]
    go_enter Tryz.func50, Tryz.ntmps50
    go_wp2
    go_end0
    exact ⟨rfl, p, rfl, H.out.set2 e0, (Kept.refl _ _).setCell _ _ (fun _ => rfl)⟩
  · rw [if_neg hf]
    have hf' : (f == 0) = false := by simp [hf]
    clear hf
    go_enter Tryz.func50, Tryz.ntmps50
    go_wp2
    go_end0
    exact ⟨rfl, QTo.stay H.out 0⟩

theorem qEnd_any (h : IsQ w g v bs p f) : Calls Tryz.prog 26 #[.pointer (some ⟨g, 0, none⟩)] w fun e w' => e = .returned (.int .i64 (if f ≠ 0 then f else if bs.drop p = [] then 0 else 13)) ∧ ∃ m, w' = w.drewN m := by
  have c0 := h.c0
  have c1 := h.c1
  have c2 := h.c2
  obtain ⟨ao, cap, rfl, _, q2, _, _⟩ := h.2.1
  unfold maxLen at q2
  have hp := h.2.2.1
  have hl := h.2.2.2.1
  clear h
  by_cases hf : f = 0
  · subst hf
    rw [if_neg (by simp)]
    by_cases hd : p < bs.length
    · rw [if_neg (by intro e; have := congrArg List.length e; rw [List.length_drop] at this; simp at this; omega)]
      have hb1 : decide ((p : Int) < (bs.length : Int)) = true := by simp; omega
      have hb2 : decide (p < bs.length) = true := by simp; omega
      have hb3 : ((0 : Int) == 0) = true := by simp
      go_enter Tryz.func26, Tryz.ntmps26
      go_wp2
      go_quiet (fail)
      go_wp2
      go_ret
      exact ⟨rfl, _, rfl⟩
    · rw [if_pos (List.drop_eq_nil_of_le (by omega))]
      have hb1 : decide ((p : Int) < (bs.length : Int)) = false := by simp; omega
      have hb2 : decide (p < bs.length) = false := by simp; omega
      have hb3 : ((0 : Int) == 0) = true := by simp
      go_enter Tryz.func26, Tryz.ntmps26
      go_wp2
      go_quiet (fail)
      go_wp2
      go_ret
      exact ⟨rfl, _, rfl⟩
  · rw [if_pos hf]
    have hb3 : (f == 0) = false := by simp [hf]
    clear hf
    go_enter Tryz.func26, Tryz.ntmps26
    go_wp2
    go_quiet (fail)
    go_wp2
    go_ret
    exact ⟨rfl, _, rfl⟩

set_option maxHeartbeats 1000000 in
theorem qNumber_any (n : Nat) (h : IsQ w g v bs p f) (hb : Byts bs) (h8 : n ≤ 8) :
    Calls Tryz.prog 82 #[.pointer (some ⟨g, 0, none⟩), .int .i64 n] w fun e w' => e = .returned (.tuple #[.int .u64 (rdNum n (bs.drop p) f).out, .bool (decide (f = 0 ∧ n ≤ (bs.drop p).length))]) ∧ QTo w g v bs (rdNum n (bs.drop p) f) w' := by
  have c0 := h.c0
  have c1 := h.c1
  have c2 := h.c2
  have f2 := h.fr 2
  have H : Hid (IsQ w g v bs p f) := h
  obtain ⟨ao, cap, rfl, _, q2, _, h3⟩ := h.2.1
  have H3 : Hid (bs = [] ∨ ∃ b off, ao = some ⟨b, off, none⟩ ∧ ∀ i, i < bs.length → w.cell? ⟨b, off + i, none⟩ = some (.int .u8 (bs.getD i 0))) := h3
  unfold maxLen at q2
  have hp := h.2.2.1
  have hl := h.2.2.2.1
  have hdl : (bs.drop p).length = bs.length - p := List.length_drop ..
  clear h h3
  by_cases hf : f = 0
  · subst hf
    by_cases hs : bs.length - p < n
    · have e1 : rdNum n (bs.drop p) 0 = ⟨0, bs.drop p, 10⟩ := by unfold rdNum; rw [if_neg (by simp), if_pos (by omega)]
      have e2 : decide ((0 : Int) = 0 ∧ n ≤ (bs.drop p).length) = false := by simp; omega
      rw [e1, e2]
      clear e1 e2
      have hb1 : decide ((bs.length : Int) - (p : Int) < (n : Int)) = true := by simp; omega
      go_enter Tryz.func82, Tryz.ntmps82
      go_wp2
      go_quiet (fail)
      go_wp2
      go_ret2
      exact ⟨rfl, p, rfl, (H.out.kept ((Kept.refl w (fun _ => False)).drewN nq) (fun h => h) (fun _ _ h => h)).set2 10, ((Kept.refl w _).drewN nq).setCell _ _ (fun _ => rfl)⟩
    · have e1 : rdNum n (bs.drop p) 0 = ⟨num ((bs.drop p).take n), (bs.drop p).drop n, 0⟩ := by unfold rdNum; rw [if_neg (by simp), if_neg (by omega)]
      have e2 : decide ((0 : Int) = 0 ∧ n ≤ (bs.drop p).length) = true := by simp; omega
      rw [e1, e2]
      clear e1 e2
      have hb1 : decide ((bs.length : Int) - (p : Int) < (n : Int)) = false := by simp; omega
      have hbd : Byts (bs.drop p) := fun x hx => hb x (List.mem_of_mem_drop hx)
      go_enter Tryz.func82, Tryz.ntmps82
      go_wp2
      go_quiet (fail)
      go_wp2
      go_loopw [6, 7] (fun nv iv wr => ∃ k : Nat, k ≤ n ∧ iv = .int .i64 k ∧ nv = .int .u64 (num ((bs.drop p).take k)) ∧ IsQ wr g (.slice ao bs.length cap) bs (p + k) 0 ∧ Kept w wr (· = g)) (fun _ iv _ => n - (intOf iv).toNat)
      case atStart => exact ⟨0, Nat.zero_le _, rfl, rfl, H.out.kept ((Kept.refl w (fun _ => False)).drewN nq) (fun h => h) (fun _ _ h => h), (Kept.refl w _).drewN nq⟩
      case round =>
        obtain ⟨k, hk, rfl, rfl, hQ, hK⟩ := hrel
        have HQ : Hid (IsQ wr g (.slice ao bs.length cap) bs (p + k) 0 ∧ Kept w wr (· = g)) := ⟨hQ, hK⟩
        by_cases hlt : k < n
        · rcases hQ.2.1 with ⟨ao', cap', e, _, _, _, h3⟩
          simp only [Value.slice.injEq, true_and] at e
          obtain ⟨rfl, rfl⟩ := e
          rcases h3 with h3 | ⟨b, off, rfl, h3⟩
          · have h0 : bs.length = 0 := by rw [h3]; rfl
            omega
          have hc := h3 (p + k) (by omega)
          have d0 := hQ.c0
          have d1 := hQ.c1
          have df := hQ.fr 1
          have hx := hb.nth (p + k)
          have hd := num_bd8 ((bs.drop p).take n) (fun x hx => hbd x (List.mem_of_mem_take hx)) k (by rw [List.length_take]; omega) (by rw [List.length_take]; omega)
          rw [List.take_take, Nat.min_eq_left (by omega)] at hd
          have hnx := num_next (bs.drop p) k (by omega)
          have hgx : (bs.drop p).getD k 0 = bs.getD (p + k) 0 := by simp [List.getD_eq_getElem?_getD]
          rw [hgx] at hnx
          have HS : Hid _ := hnx
          generalize bs.getD (p + k) 0 = x at *
          generalize hA : num ((bs.drop p).take k) = A at *
          clear hA h3 hnx hgx hQ hK c0 c1 c2 f2 hbd
          go_wp2
          go_quiet (fail)
          go_wp2
          go_roundw
          case rel =>
            have hq := (HQ.out.1.kept ((Kept.refl wr (fun _ => False)).drewN nq) (fun h => h) (fun _ _ h => h)).set1 (q := p + (k + 1)) (by omega)
            have e : ((p + (k + 1) : Nat) : Int) = (p : Int) + (k : Int) + 1 := by omega
            rw [e] at hq
            exact ⟨k + 1, by omega, by go_num, by rw [HS.out], hq, (HQ.out.2.drewN nq).setCell _ _ (fun _ => rfl)⟩
          case measure => simp [intOf]; omega
        · obtain rfl : k = n := by omega
          go_wp2
          go_ret2
          exact ⟨rfl, p + k, by rw [List.drop_drop], HQ.out⟩
  · have e1 : rdNum n (bs.drop p) f = ⟨0, bs.drop p, f⟩ := by unfold rdNum; rw [if_pos hf]
    have e2 : decide (f = 0 ∧ n ≤ (bs.drop p).length) = false := by simp [hf]
    rw [e1, e2]
    have hb3 : (f != 0) = true := by simp [hf]
    clear hf e1 e2
    go_enter Tryz.func82, Tryz.ntmps82
    go_wp2
    go_ret2
    exact ⟨rfl, QTo.stay H.out 0⟩

theorem qInt32_any (h : IsQ w g v bs p f) (hb : Byts bs) : Calls Tryz.prog 43 #[.pointer (some ⟨g, 0, none⟩)] w fun e w' => e = .returned (.int .i32 (down32 (rdNum 4 (bs.drop p) f).out)) ∧ QTo w g v bs (rdNum 4 (bs.drop p) f) w' := by
  have H : Hid (IsQ w g v bs p f) := h
  have hbd : Byts (bs.drop p) := fun x hx => hb x (List.mem_of_mem_drop hx)
  have hx := rdNum_bd 4 (bs.drop p) f hbd
  have h1 : (256 : Int) ^ 4 = 4294967296 := by decide
  rw [h1] at hx
  clear h h1 hbd
  go_enter Tryz.func43, Tryz.ntmps43
  go_wp2_with fail
  refine (qNumber_any g v bs p f _ 4 H.out hb (by omega)).mono ?_
  rintro e w1 ⟨rfl, hq⟩
  have HQ : Hid (QTo w g v bs (rdNum 4 (bs.drop p) f) w1) := hq
  clear hq
  generalize hY : (rdNum 4 (bs.drop p) f).out = y at *
  have HY : Hid ((rdNum 4 (bs.drop p) f).out = y) := hY
  clear hY
  generalize decide (f = 0 ∧ 4 ≤ (bs.drop p).length) = t at *
  by_cases hy : 2147483647 < y
  · go_wp2
    go_ret
    refine ⟨?_, HQ.out⟩
    rw [HY.out]
    rw [down32_is _ (by omega) (by omega), if_neg (by omega)]
    rfl
  · go_wp2
    go_ret
    refine ⟨?_, HQ.out⟩
    rw [HY.out]
    rw [down32_is _ (by omega) (by omega), if_pos (by omega)]
    rfl

theorem qUint32_any (h : IsQ w g v bs p f) (hb : Byts bs) : Calls Tryz.prog 44 #[.pointer (some ⟨g, 0, none⟩)] w fun e w' => e = .returned (.int .u32 (id (rdNum 4 (bs.drop p) f).out)) ∧ QTo w g v bs (rdNum 4 (bs.drop p) f) w' := by
  have H : Hid (IsQ w g v bs p f) := h
  have hbd : Byts (bs.drop p) := fun x hx => hb x (List.mem_of_mem_drop hx)
  have hx := rdNum_bd 4 (bs.drop p) f hbd
  have h1 : (256 : Int) ^ 4 = 4294967296 := by decide
  rw [h1] at hx
  clear h h1 hbd
  go_enter Tryz.func44, Tryz.ntmps44
  go_wp2_with fail
  refine (qNumber_any g v bs p f _ 4 H.out hb (by omega)).mono ?_
  rintro e w1 ⟨rfl, hq⟩
  have HQ : Hid (QTo w g v bs (rdNum 4 (bs.drop p) f) w1) := hq
  clear hq
  generalize hY : (rdNum 4 (bs.drop p) f).out = y at *
  have HY : Hid ((rdNum 4 (bs.drop p) f).out = y) := hY
  clear hY
  generalize decide (f = 0 ∧ 4 ≤ (bs.drop p).length) = t at *
  go_wp2
  go_ret
  refine ⟨?_, HQ.out⟩
  rw [HY.out]
  rfl

end
end Go.Proofs.YtblgipjipeaemaaGreatDoor
