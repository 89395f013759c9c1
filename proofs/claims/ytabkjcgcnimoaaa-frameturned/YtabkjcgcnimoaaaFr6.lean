/- The iterator that frame.cuts makes: it hands out the whole frames at the beginning, one by one: the place behind each, and its body as a part of what was handed in. -/
import Derived.Test.YtabkjcgcnimoaaaFr5
import Derived.Test.YtabkjcgcnimoaaaRangeR
namespace Go.Proofs.Ytabkjcgcnimoaaa
open Go.RowKit Go.Shelf
set_option maxRecDepth 8000
attribute [local go_sem] Oper.semAt_some

/-- A slice value that is nil, or leads into a block. -/
def Shaped (v : Value) (xs : List Int) : Prop := (v = .slice none 0 0 ∧ xs = []) ∨ ∃ b off cap, v = .slice (some ⟨b, off, none⟩) xs.length cap

theorem Sees.same {w w' : World} {v : Value} {xs : List Int} (h : Sees w v xs) (he : ∀ k, v.ownBlock = some k → w'.heap[k]? = w.heap[k]?) : Sees w' v xs := by
  obtain ⟨ao, cap, rfl, h1, h2, h0, h3⟩ := h
  refine ⟨ao, cap, rfl, h1, h2, h0, ?_⟩
  rcases h3 with h3 | ⟨b, off, rfl, h3⟩
  · exact .inl h3
  · exact .inr ⟨b, off, rfl, fun i hi => (World.cell?_of_block (he b rfl)).trans (h3 i hi)⟩

/-- The part of a slice that a body at place p is. -/
def cutV (v : Value) (p n : Nat) : Value := match v with
  | .slice (some ⟨b, off, _⟩) _ c => .slice (some ⟨b, off + p + 8, none⟩) n (c - p - 8)
  | _ => .slice none 0 0

/-- What is handed out: a place and the body of the frame there. -/
def cutEnc (v : Value) (x : Nat × List Int) : Array Value := #[.int .i64 ((x.1 + (x.2.length + 9) : Nat) : Int), cutV v x.1 x.2.length]
def bods (l : List (Nat × List Int)) : List (List Int) := l.map (·.2)
theorem bods_snoc (l : List (Nat × List Int)) (x : Nat × List Int) : bods (l ++ [x]) = bods l ++ [x.2] := by simp [bods]

def cutR (v : Value) (xs : List Int) (pre : List (Nat × List Int)) (x : Nat × List Int) (_ W : World) : Prop :=
  x.1 = pos (bods pre) ∧ Chain xs 0 (bods (pre ++ [x])) ∧ Sees W (cutV v x.1 x.2.length) x.2

theorem kept_below {w w' : World} (h : Below w.heap.size w w') (S : Blocks) : Kept w w' S := (Below.kept h).mono (fun k hk h => by omega)

theorem sees_from {w : World} {b off cap p : Nat} {xs : List Int} (h : Sees w (.slice (some ⟨b, off, none⟩) xs.length cap) xs) (hp : p ≤ xs.length) :
    Sees w (.slice (some ⟨b, off + p, none⟩) (xs.length - p) (cap - p)) (xs.drop p) := by
  have := sees_cut h (i := p) (j := xs.length) hp (Nat.le_refl _)
  rwa [List.take_of_length_le (by simp)] at this

set_option maxHeartbeats 1000000 in
theorem cuts1_seq (c0 : Nat) (v : Value) (T : TypeId) (xs : List Int) (w : World) (hc : w.heap[c0]? = some (.cells #[v] T (0, 0))) (hs : Sees w v xs) (hsh : Shaped v xs) (hb : Byts xs) (hl : xs.length ≤ 140737488355328) :
    SeqR Try.prog 22 #[.pointer (some ⟨c0, 0, none⟩)] (cutEnc v) (cutR v xs) (fun l => Bodies xs (bods l)) (fun l => Chain xs 0 (bods l)) (fun k => k = c0 ∨ v.ownBlock = some k) w := by
  intro l J Jx W hD0 hsz hJ hJx hY h0
  refine (callsIn_wide (n := 0)).1 ?_
  refine callsIn_of_wp Try.func22 rfl trivial ?_ rfl
  simp only [Try.ntmps22, List.size_toArray, List.length_cons, List.length_nil, Nat.reduceAdd, Nat.reduceSub, Array.replicate_succ, Array.replicate_zero, List.push_toArray, List.append_toArray, List.nil_append, List.cons_append]
  have HA : Hid (w.heap[c0]? = some (.cells #[v] T (0, 0)) ∧ Sees w v xs ∧ Shaped v xs ∧ Byts xs ∧ xs.length ≤ 140737488355328 ∧ Stays (fun k => k = c0 ∨ v.ownBlock = some k) J) := ⟨hc, hs, hsh, hb, hl, hJ⟩
  have HY : Hid _ := hY
  clear hc hs hsh hb hJ hJx hY
  gi_wp2
  gi_loopw [3] (fun p wr => ∃ pre : List (Nat × List Int), p = .int .i64 (pos (bods pre)) ∧ Chain xs 0 (bods pre) ∧ J (fun k => k = c0 ∨ v.ownBlock = some k) pre wr ∧ (∀ k, (k = c0 ∨ v.ownBlock = some k) → wr.heap[k]? = w.heap[k]?)) (fun p _ => xs.length - (intOf p).toNat)
  case atStart => exact ⟨[], rfl, trivial, h0, hD0⟩
  case round =>
    obtain ⟨pre, rfl, hch, hj, hd⟩ := hrel
    have hple := chain_le (bods pre) 0 (Nat.zero_le _) hch
    rw [Nat.zero_add] at hple
    obtain ⟨p, hp⟩ : ∃ p, p = pos (bods pre) := ⟨_, rfl⟩
    have HP : Hid (p = pos (bods pre) ∧ Chain xs 0 (bods pre)) := ⟨hp, hch⟩
    rw [← hp] at hple ⊢
    have hcw : wr.heap[c0]? = some (.cells #[v] T (0, 0)) := (hd c0 (.inl rfl)).trans HA.out.1
    have hcell : wr.cell? ⟨c0, 0, none⟩ = some v := cell_of_row wr c0 0 _ _ _ hcw
    have hsw : Sees wr v xs := HA.out.2.1.same (fun k hk => hd k (.inr hk))
    have HJ : Hid (J (fun k => k = c0 ∨ v.ownBlock = some k) pre wr ∧ (∀ k, (k = c0 ∨ v.ownBlock = some k) → wr.heap[k]? = w.heap[k]?) ∧ Sees wr v xs) := ⟨hj, hd, hsw⟩
    clear hj hd hsw hcw hp hch
    rcases HA.out.2.2.1 with ⟨rfl, hx⟩ | ⟨b, off, cap, rfl⟩
    · subst hx
      simp at hple
      subst hple
      have hn : bodyLen [] = 0 := bodyLen_nil
      gi_wp2_with fail
      refine ⟨trivial, rfl, (callsIn_wide.2 (first_any _ [] _ (sees_nil _) HA.out.2.2.2.1 (by simp))).mono ?_⟩
      rw [hn]
      rintro e w1 ⟨rfl, hb1⟩
      have hbv : bodyV (.slice none 0 0) 0 = .slice none 0 0 := rfl
      rw [hbv]
      have HB1 : Hid (Below wr.heap.size wr w1) := hb1
      clear hb1 hbv hn
      gi_wp2
      refine bodyPost_ret (results_none rfl _ _ _) rfl ?_
      refine ⟨⟨_, rfl⟩, _, .inl ⟨pre, ⟨HP.out.2, ?_⟩, HA.out.2.2.2.2.2 _ _ _ _ _ HJ.out.1 (kept_below HB1.out _) (fun k hk => .inl hk)⟩⟩
      rw [← HP.out.1]
      exact bodyLen_nil
    · obtain ⟨g1, g2⟩ : xs.length ≤ cap ∧ cap ≤ 9223372036854775807 := by
        obtain ⟨_, _, e, h1, h2, _⟩ := HJ.out.2.2
        simp at e
        obtain ⟨_, rfl⟩ := e
        unfold maxLen at h2
        exact ⟨h1, by omega⟩
      by_cases hcp : cap = p
      · have e1 : xs.length = p := by omega
        have hx0 : xs.drop p = [] := List.drop_eq_nil_of_le (by omega)
        have hn : bodyLen [] = 0 := bodyLen_nil
        have HX : Hid (xs.drop p = []) := hx0
        have s0 : Sees wr (.slice (some ⟨b, off, none⟩) 0 0) [] := ⟨_, 0, rfl, by simp, by unfold maxLen; omega, fun e => by simp at e, .inl rfl⟩
        have HS0 : Hid (Sees wr (.slice (some ⟨b, off, none⟩) 0 0) []) := s0
        have e0 : xs.length - p = 0 := by omega
        clear hx0 s0
        gi_wp2_with fail
        refine ⟨trivial, rfl, (callsIn_wide.2 (first_any _ [] _ HS0.out (fun x hx => by simp at hx) (by simp))).mono ?_⟩
        rw [hn]
        rintro e w1 ⟨rfl, hb1⟩
        have hbv : bodyV (.slice (some ⟨b, off, none⟩) 0 0) 0 = .slice none 0 0 := rfl
        rw [hbv]
        have HB1 : Hid (Below wr.heap.size wr w1) := hb1
        clear hb1 hbv hn
        gi_wp2
        refine bodyPost_ret (results_none rfl _ _ _) rfl ?_
        refine ⟨⟨_, rfl⟩, _, .inl ⟨pre, ⟨HP.out.2, ?_⟩, HA.out.2.2.2.2.2 _ _ _ _ _ HJ.out.1 (kept_below HB1.out _) (fun k hk => .inl hk)⟩⟩
        rw [← HP.out.1, HX.out]
        exact bodyLen_nil
      · have hsu := sees_from HJ.out.2.2 hple
        have HF : Hid (∀ n, bodyLen (xs.drop p) = n → Calls Try.prog 17 #[.slice (some ⟨b, off + p, none⟩) (xs.length - p) (cap - p)] wr fun e w' => e = .returned (bodyV (.slice (some ⟨b, off + p, none⟩) (xs.length - p) (cap - p)) n) ∧ Below wr.heap.size wr w') := fun n hn => by
          have := first_any _ (xs.drop p) wr hsu (HA.out.2.2.2.1.drop p) (by simp; have := HA.out.2.2.2.2.1; omega)
          rw [hn] at this
          exact this
        obtain ⟨n, hn⟩ : ∃ n, bodyLen (xs.drop p) = n := ⟨_, rfl⟩
        have HN : Hid (bodyLen (xs.drop p) = n) := hn
        by_cases h0 : n = 0
        · subst h0
          clear hn hsu
          gi_wp2_with fail
          refine ⟨trivial, rfl, (callsIn_wide.2 (HF.out 0 HN.out)).mono ?_⟩
          rintro e w1 ⟨rfl, hb1⟩
          have hbv : bodyV (.slice (some ⟨b, off + p, none⟩) (xs.length - p) (cap - p)) 0 = .slice none 0 0 := rfl
          rw [hbv]
          have HB1 : Hid (Below wr.heap.size wr w1) := hb1
          clear hb1 hbv
          gi_wp2
          refine bodyPost_ret (results_none rfl _ _ _) rfl ?_
          refine ⟨⟨_, rfl⟩, _, .inl ⟨pre, ⟨HP.out.2, ?_⟩, HA.out.2.2.2.2.2 _ _ _ _ _ HJ.out.1 (kept_below HB1.out _) (fun k hk => .inl hk)⟩⟩
          rw [← HP.out.1]
          exact HN.out
        · have hle := bodyLen_le (xs.drop p) (by omega)
          rw [hn, List.length_drop] at hle
          obtain ⟨ys, hys⟩ : ∃ ys, ys = (xs.drop (p + 8)).take n := ⟨_, rfl⟩
          have hyl : ys.length = n := by rw [hys]; simp; omega
          have hfa : FrameAt xs p ys := ⟨by omega, by rw [hyl]; exact hn, by rw [hyl]; exact hys⟩
          have hsy : ∀ w', (∀ k, (k = c0 ∨ (Value.slice (some ⟨b, off, none⟩) xs.length cap).ownBlock = some k) → w'.heap[k]? = w.heap[k]?) → Sees w' (.slice (some ⟨b, off + p + 8, none⟩) n (cap - p - 8)) ys := fun w' hk => by
            have h1 := sees_cut (HA.out.2.1.same (fun k hk' => hk k (.inr hk'))) (i := p + 8) (j := p + 8 + n) (by omega) (by omega)
            rw [Nat.add_sub_cancel_left, ← hys] at h1
            rw [Nat.add_assoc, Nat.sub_sub]
            exact h1
          have HS : Hid (∀ w', (∀ k, (k = c0 ∨ (Value.slice (some ⟨b, off, none⟩) xs.length cap).ownBlock = some k) → w'.heap[k]? = w.heap[k]?) → Sees w' (.slice (some ⟨b, off + p + 8, none⟩) n (cap - p - 8)) ys) := hsy
          have HFA : Hid (FrameAt xs p ys ∧ ys.length = n) := ⟨hfa, hyl⟩
          have h140 : xs.length ≤ 140737488355328 := hl
          clear hsu hn hfa hys hsy hyl
          gi_wp2_with fail
          refine ⟨trivial, rfl, (callsIn_wide.2 (HF.out n HN.out)).mono ?_⟩
          rintro e w1 ⟨rfl, hb1⟩
          have hbv : bodyV (.slice (some ⟨b, off + p, none⟩) (xs.length - p) (cap - p)) n = .slice (some ⟨b, off + p + 8, none⟩) n (cap - p - 8) := by unfold bodyV; rw [if_neg h0]
          rw [hbv]
          have hk1 : ∀ k, (k = c0 ∨ (Value.slice (some ⟨b, off, none⟩) xs.length cap).ownBlock = some k) → w1.heap[k]? = w.heap[k]? := fun k hk => by
            have e := HJ.out.2.1 k hk
            have hlt : k < wr.heap.size := by
              rcases hk with rfl | hk
              · exact lt_of_block (e.trans HA.out.1)
              · exact HJ.out.2.2.lt (fun e => by rw [e] at hle; simp at hle) k hk
            rw [hb1.block k hlt]; exact e
          obtain ⟨fn, tmps, assign, body, hy, hRd⟩ := HY.out _ pre (p, ys) wr w1 (fun _ h => h) HJ.out.1 (kept_below hb1 _) ⟨HP.out.1, by rw [bods_snoc]; exact (chain_snoc xs ys (bods pre) 0).2 ⟨HP.out.2, by rw [Nat.zero_add, ← HP.out.1]; exact HFA.out.1⟩, by rw [HFA.out.2]; exact HS.out w1 hk1⟩
          have hy2 : (Instr.yield l #[.int .i64 ((p : Int) + ((n : Int) + 9)), .slice (some ⟨b, off + p + 8, none⟩) n (cap - p - 8)]).run Try.prog w1 = .ok (.round l fn tmps assign body) w1 := by
            have e := hy
            simp only [cutEnc, cutV, HFA.out.2, Int.natCast_add] at e
            exact e
          have HK1 : Hid _ := hk1
          have HRd : Hid _ := hRd
          clear hb1 hbv hy hk1 hRd
          gi_wp2_with fail
          refine ⟨rfl, RoundIn.mono HRd.out ?_⟩
          clear hy2
          rintro e W3 ⟨hk3, (⟨rfl, hJ3⟩ | ⟨rfl, hJx3⟩)⟩
          · have HR3 : Hid (Kept w1 W3 (fun k => ¬ (k = c0 ∨ (Value.slice (some ⟨b, off, none⟩) xs.length cap).ownBlock = some k)) ∧ J (fun k => k = c0 ∨ (Value.slice (some ⟨b, off, none⟩) xs.length cap).ownBlock = some k) (pre ++ [(p, ys)]) W3) := ⟨hk3, hJ3⟩
            clear hk3 hJ3
            gi_wp2
            go_roundw
            case rel =>
              refine ⟨pre ++ [(p, ys)], ?_, ?_, HR3.out.2, fun k hk => ?_⟩
              · rw [bods_snoc, pos_snoc, ← HP.out.1, HFA.out.2]
                exact congrArg (Value.int .i64) (by omega)
              · rw [bods_snoc]
                exact (chain_snoc xs ys (bods pre) 0).2 ⟨HP.out.2, by rw [Nat.zero_add, ← HP.out.1]; exact HFA.out.1⟩
              · have e := HK1.out k hk
                have hlt : k < w1.heap.size := by
                  rcases hk with rfl | hk
                  · exact lt_of_block (e.trans HA.out.1)
                  · exact (HA.out.2.1.same (fun k hk' => HK1.out k (.inr hk'))).lt (fun e => by rw [e] at hle; simp at hle) k hk
                exact (HR3.out.1.block k hlt (fun h => h hk)).trans e
            case measure => simp [intOf]; omega
          · have HR3 : Hid (Jx (fun k => k = c0 ∨ (Value.slice (some ⟨b, off, none⟩) xs.length cap).ownBlock = some k) (pre ++ [(p, ys)]) W3) := hJx3
            clear hk3 hJx3
            gi_wp2
            refine bodyPost_ret (results_none rfl _ _ _) rfl ?_
            exact ⟨⟨_, rfl⟩, _, .inr ⟨pre ++ [(p, ys)], by rw [bods_snoc]; exact (chain_snoc xs ys (bods pre) 0).2 ⟨HP.out.2, by rw [Nat.zero_add, ← HP.out.1]; exact HFA.out.1⟩, HR3.out⟩⟩

end Go.Proofs.Ytabkjcgcnimoaaa
