/- What the document's fault and Check answer, put together. -/
import Derived.Test.YtkcapiblicfboaaGreatDoorPaMaJ
import Derived.Test.YtkcapiblicfboaaGreatDoorPaMbJ
import Derived.Test.YtkcapiblicfboaaGreatDoorPaMcJ
namespace Go.Proofs.YtkcapiblicfboaaGreatDoor
open Go.RowKit Go.Shelf
set_option maxRecDepth 8000

theorem faultR_any (s : ByteArray) (f d : Nat) (hl : s.size ≤ 4294967296) (hf : f ≤ 4294967296) (hd : d ≤ 4294967297) (w : World) :
    Calls Tryz.prog 92 #[.string s, .int .i64 (f : Int), .int .i64 (d : Int)] w fun e w' => e = .returned (.int .i64 ((mn (mn d f (nf s.data.toList)) f (rg s.data.toList) : Nat) : Int)) ∧ w' = w := by
  have hz := size_list s
  by_cases h24 : 24 < s.size
  · have hb : ¬ (s.data.toList = [] ∨ s.data.toList = [46] ∨ s.data.toList = [46, 46]) := by
      rintro (h | h | h) <;> rw [h] at hz <;> simp only [List.length_cons, List.length_nil] at hz <;> omega
    rw [nf_long (by omega)]
    have hm := mn_cast d f 24
    by_cases hfd : (f : Int) + 24 < d
    · rw [if_pos (by omega)] at hm
      exact faultR_Blt s f d _ hl hf hd w hb h24 (by rw [hm]; rfl) hfd
    · rw [if_neg (by omega)] at hm
      have : mn d f (some 24) = d := by omega
      rw [this]
      exact faultR_Bge s f d hl hf hd w hb h24 hfd
  · by_cases hs : s.data.toList = [] ∨ s.data.toList = [46] ∨ s.data.toList = [46, 46]
    · have hn : nf s.data.toList = some 0 := by unfold nf; rw [if_neg (by omega), if_pos hs]
      rw [hn]
      have hm := mn_cast d f 0
      by_cases hfd : (f : Int) < d
      · rw [if_pos (by omega)] at hm
        have : mn d f (some 0) = f := by omega
        rw [this]
        rcases hs with h | h | h
        · exact faultR_A0lt s f d hl hf hd w h hfd
        · exact faultR_A1lt s f d hl hf hd w h hfd
        · exact faultR_A2lt s f d hl hf hd w h hfd
      · rw [if_neg (by omega)] at hm
        have : mn d f (some 0) = d := by omega
        rw [this]
        rcases hs with h | h | h
        · exact faultR_A0ge s f d hl hf hd w h hfd
        · exact faultR_A1ge s f d hl hf hd w h hfd
        · exact faultR_A2ge s f d hl hf hd w h hfd
    · have hn : nf s.data.toList = none := by unfold nf; rw [if_neg (by omega), if_neg hs]
      rw [hn]
      exact faultR_C s f d hl hf hd w hs h24

theorem lay_snoc (x : Bs) : ∀ (a : List Bs) (f : Nat), lay f (a ++ [x]) = lay f a ++ [(f + total a, x)]
  | [], f => by simp [lay, total]
  | s :: a, f => by
    simp only [List.cons_append, lay, total, lay_snoc x a]
    congr 4
    omega

theorem mfold_snoc (m : Nat) (l : List (Nat × Bs)) (x : Nat × Bs) : mfold m (l ++ [x]) = mn (mn (mfold m l) x.1 (nf x.2)) x.1 (rg x.2) := by
  simp [mfold, List.foldl_append]

theorem mn_le (d f : Nat) (o : Option Nat) : mn d f o ≤ d := by
  unfold mn; cases o <;> simp <;> omega

theorem mfold_le : ∀ (l : List (Nat × Bs)) (m : Nat), mfold m l ≤ m := by
  intro l
  induction l with
  | nil => intro m; simp [mfold]
  | cons x t ih =>
    intro m
    have h1 := ih (mn (mn m x.1 (nf x.2)) x.1 (rg x.2))
    have h2 := mn_le (mn m x.1 (nf x.2)) x.1 (rg x.2)
    have h3 := mn_le m x.1 (nf x.2)
    simp only [mfold, List.foldl_cons] at h1 ⊢
    omega

theorem total_take (l : List Bs) (k : Nat) : total (l.take k) ≤ total l := by
  have := total_app (l.take k) (l.drop k)
  rw [List.take_append_drop] at this
  omega

def checkV (l : Bs) : Value := .tuple (if isPb l then #[.int .i64 0, .int .i64 0] else #[.int .i64 (faultL l : Nat), .int .i64 50])

set_option maxHeartbeats 2000000 in
theorem checkR_any (s : ByteArray) (hl : s.size ≤ 4294967295) (w : World) :
    Calls Tryz.prog 87 #[.string s] w fun e w' => e = .returned (checkV s.data.toList) ∧ Below w.heap.size w w' := by
  cases hb : isPb s.data.toList with
  | true =>
    have he : checkV s.data.toList = .tuple #[.int .i64 0, .int .i64 0] := by unfold checkV; rw [hb]; rfl
    rw [he]
    clear he
    go_enter Tryz.func87, Tryz.ntmps87
    go_wp2_with (go_at_call 88; refine (is_any s hl _).mono ?_; rintro e w1 ⟨rfl, hb1⟩; rw [hb])
    go_ret2
    exact ⟨rfl, hb1⟩
  | false =>
    have he : checkV s.data.toList = .tuple #[.int .i64 (faultL s.data.toList : Nat), .int .i64 50] := by unfold checkV; rw [hb]; rfl
    have e0 := eq_list s []
    by_cases h1 : s.size < 1
    · have hnil : s.data.toList = [] := List.eq_nil_of_length_eq_zero (by rw [← size_list]; omega)
      have hf : faultL s.data.toList = 0 := by rw [hnil]; rfl
      rw [he, hf]
      rw [decide_eq_true hnil] at e0
      clear he hf hnil
      go_enter Tryz.func87, Tryz.ntmps87
      go_wp2_with (go_at_call 88; refine (is_any s hl _).mono ?_; rintro e w1 ⟨rfl, hb1⟩; rw [hb])
      go_ret2
      exact ⟨rfl, hb1⟩
    · have h0 : 0 < s.size := by omega
      rw [decide_eq_false (fun e => by have := congrArg List.length e; rw [← size_list] at this; simp only [List.length_nil] at this; omega)] at e0
      rcases head_cases s h0 with ⟨r, hr, hn47, hrl⟩ | ⟨hop, hn47⟩
      · have hr0 : r ≠ [] := fun e => by rw [hr, e] at hb; exact absurd hb (by decide)
        obtain ⟨m0, hm0⟩ : ∃ m0 : Nat, m0 = if 64 < s.size then 64 else s.size + 1 := ⟨_, rfl⟩
        have hfold : mfold m0 (lay 1 (segs r)) = faultL s.data.toList := by
          have hne : faultL (47 :: r) ≠ sound := fun e => by
            have : isPb (47 :: r) = true := by unfold isPb; simp [e]
            rw [hr, this] at hb; simp at hb
          have := fault_fold r hr0 (by omega) hne
          rw [hr, ← this, hm0]
          simp only [List.length_cons, hrl]
        rw [he, ← hfold]
        have hm1 : m0 ≤ 4294967296 := by rw [hm0]; split <;> omega
        have HR : Hid (s.data.toList = 47 :: r) := hr
        have hss := segs_count r
        have htot := total_segs r
        have HL : Hid (∀ x ∈ segs r, x.length ≤ 4294967296) := fun x hx => by have := segs_len_le r x hx; omega
        obtain ⟨ss, hsseq⟩ : ∃ ss, ss = segs r := ⟨_, rfl⟩
        rw [← hsseq] at hss htot HL ⊢
        have HSs : Hid (ss = segs r) := hsseq
        have HT : Hid (total ss = r.length + 1) := htot
        have HM : Hid (m0 = if 64 < s.size then 64 else s.size + 1) := hm0
        clear he hr hfold hsseq htot
        have hmm : (64 < s.size ∧ m0 = 64) ∨ (¬ 64 < s.size ∧ m0 = s.size + 1) := by
          rw [hm0]; split
          · exact .inl ⟨by assumption, rfl⟩
          · exact .inr ⟨by assumption, rfl⟩
        clear hm0
        rcases hmm with ⟨h64, rfl⟩ | ⟨h64, hmv⟩
        · go_enter Tryz.func87, Tryz.ntmps87
          go_wp2_with (go_at_call 88; refine (is_any s hl _).mono ?_; rintro e w1 ⟨rfl, hb1⟩; rw [hb])
          refine (namesR_any s r HR.out hr0 (by omega) _).mono ?_
          rintro e w2 ⟨v, rfl, ho, hb2⟩
          rw [← HSs.out] at ho
          have HO : Hid (OwnsT w2 w1.heap.size v ss ∧ Below w.heap.size w w2) := ⟨ho, hb1.trans (hb2.mono hb1.size)⟩
          obtain ⟨ao, cp, rfl⟩ := ownsT_shape ho
          clear ho hb1 hb2
          go_wp2
          go_loop [4, 6, 7] (fun vm vf vi => ∃ k : Nat, k ≤ ss.length ∧ vi = .int .i64 (k : Int) ∧ (∃ f : Nat, vf = .int .i64 (f : Int) ∧ f ≤ 4294967296 ∧ Hid (f = 1 + total (ss.take k)) ∧ ∃ d : Nat, vm = .int .i64 (d : Int) ∧ d ≤ 4294967297 ∧ Hid (d = mfold 64 (lay 1 (ss.take k))))) (fun _ _ vi => ss.length - (intOf vi).toNat)
          case atStart => exact ⟨0, Nat.zero_le _, rfl, 1, rfl, by omega, by show _ = _; simp [total], 64, rfl, by omega, by show _ = _; simp [lay, mfold]⟩
          case round =>
            obtain ⟨k, hk, rfl, f, rfl, hf, HF, d, rfl, hd, HD⟩ := hrel
            by_cases hlt : k < ss.length
            · obtain ⟨g, c, e, hg, hc1, hc2, hcell⟩ := ownsT_cell HO.out.1 k hlt
              simp only [Value.slice.injEq] at e
              obtain ⟨rfl, _, rfl⟩ := e
              have hxl := HL.out _ (List.getElem_mem hlt)
              have htk : ss.take (k + 1) = ss.take k ++ [ss[k]] := List.take_succ_eq_append_getElem hlt
              have htt := total_take ss (k + 1)
              rw [HT.out, htk, total_app] at htt
              simp only [total] at htt
              obtain ⟨x, hx⟩ : ∃ x, x = ss[k] := ⟨_, rfl⟩
              rw [← hx] at hcell hxl htk htt
              have HN : Hid (∀ w, Calls Tryz.prog 92 #[bytesV x, .int .i64 (f : Int), .int .i64 (d : Int)] w fun e w' => e = .returned (.int .i64 ((mn (mn d f (nf x)) f (rg x) : Nat) : Int)) ∧ w' = w) := fun w => faultR_any ⟨x.toArray⟩ f d (by rw [bytes_size]; exact hxl) hf hd w
              have hfx : f + (x.length + 1) ≤ 4294967296 := by have := HF.out; omega
              have HF2 : Hid (f + (x.length + 1) = 1 + total (ss.take (k + 1))) := by
                show _ = _
                rw [htk, total_app, HF.out]; simp only [total]; omega
              obtain ⟨d2, hd2⟩ : ∃ d2, d2 = mn (mn d f (nf x)) f (rg x) := ⟨_, rfl⟩
              have HD2 : Hid (d2 = mfold 64 (lay 1 (ss.take (k + 1)))) := by
                show _ = _
                rw [htk, lay_snoc, mfold_snoc, hd2, HD.out, HF.out]
              have hd3 : d2 ≤ 4294967297 := by
                have h1 := mn_le (mn d f (nf x)) f (rg x)
                have h2 := mn_le d f (nf x)
                omega
              rw [← hd2] at HN
              have hxs : (⟨x.toArray⟩ : ByteArray).size = x.length := bytes_size x
              clear htk htt hd2 hx
              go_wp2_with (go_at_call 92; refine (HN.out _).mono ?_; rintro e w' ⟨rfl, rfl⟩)
              refine ⟨⟨k + 1, by omega, by simp, f + (x.length + 1), ?_, hfx, HF2, d2, rfl, hd3, HD2⟩, ?_⟩
              · congr 1
              · simp [intOf]; omega
            · have HE : Hid (d = mfold 64 (lay 1 ss)) := by
                show _ = _
                rw [HD.out, List.take_of_length_le (by omega)]
              go_wp2
              go_ret2
              exact ⟨by rw [← HE.out]; rfl, HO.out.2⟩
        · have HMV : Hid (((s.size : Int)) + 1 = (m0 : Int)) := by show _ = _; omega
          clear hmv
          go_enter Tryz.func87, Tryz.ntmps87
          go_wp2_with (go_at_call 88; refine (is_any s hl _).mono ?_; rintro e w1 ⟨rfl, hb1⟩; rw [hb])
          refine (namesR_any s r HR.out hr0 (by omega) _).mono ?_
          rintro e w2 ⟨v, rfl, ho, hb2⟩
          rw [← HSs.out] at ho
          have HO : Hid (OwnsT w2 w1.heap.size v ss ∧ Below w.heap.size w w2) := ⟨ho, hb1.trans (hb2.mono hb1.size)⟩
          obtain ⟨ao, cp, rfl⟩ := ownsT_shape ho
          clear ho hb1 hb2
          go_wp2
          rw [HMV.out]
          go_loop [4, 6, 7] (fun vm vf vi => ∃ k : Nat, k ≤ ss.length ∧ vi = .int .i64 (k : Int) ∧ (∃ f : Nat, vf = .int .i64 (f : Int) ∧ f ≤ 4294967296 ∧ Hid (f = 1 + total (ss.take k)) ∧ ∃ d : Nat, vm = .int .i64 (d : Int) ∧ d ≤ 4294967297 ∧ Hid (d = mfold m0 (lay 1 (ss.take k))))) (fun _ _ vi => ss.length - (intOf vi).toNat)
          case atStart => exact ⟨0, Nat.zero_le _, rfl, 1, rfl, by omega, by show _ = _; simp [total], m0, rfl, by omega, by show _ = _; simp [lay, mfold]⟩
          case round =>
            obtain ⟨k, hk, rfl, f, rfl, hf, HF, d, rfl, hd, HD⟩ := hrel
            by_cases hlt : k < ss.length
            · obtain ⟨g, c, e, hg, hc1, hc2, hcell⟩ := ownsT_cell HO.out.1 k hlt
              simp only [Value.slice.injEq] at e
              obtain ⟨rfl, _, rfl⟩ := e
              have hxl := HL.out _ (List.getElem_mem hlt)
              have htk : ss.take (k + 1) = ss.take k ++ [ss[k]] := List.take_succ_eq_append_getElem hlt
              have htt := total_take ss (k + 1)
              rw [HT.out, htk, total_app] at htt
              simp only [total] at htt
              obtain ⟨x, hx⟩ : ∃ x, x = ss[k] := ⟨_, rfl⟩
              rw [← hx] at hcell hxl htk htt
              have HN : Hid (∀ w, Calls Tryz.prog 92 #[bytesV x, .int .i64 (f : Int), .int .i64 (d : Int)] w fun e w' => e = .returned (.int .i64 ((mn (mn d f (nf x)) f (rg x) : Nat) : Int)) ∧ w' = w) := fun w => faultR_any ⟨x.toArray⟩ f d (by rw [bytes_size]; exact hxl) hf hd w
              have hfx : f + (x.length + 1) ≤ 4294967296 := by have := HF.out; omega
              have HF2 : Hid (f + (x.length + 1) = 1 + total (ss.take (k + 1))) := by
                show _ = _
                rw [htk, total_app, HF.out]; simp only [total]; omega
              obtain ⟨d2, hd2⟩ : ∃ d2, d2 = mn (mn d f (nf x)) f (rg x) := ⟨_, rfl⟩
              have HD2 : Hid (d2 = mfold m0 (lay 1 (ss.take (k + 1)))) := by
                show _ = _
                rw [htk, lay_snoc, mfold_snoc, hd2, HD.out, HF.out]
              have hd3 : d2 ≤ 4294967297 := by
                have h1 := mn_le (mn d f (nf x)) f (rg x)
                have h2 := mn_le d f (nf x)
                omega
              rw [← hd2] at HN
              have hxs : (⟨x.toArray⟩ : ByteArray).size = x.length := bytes_size x
              clear htk htt hd2 hx
              go_wp2_with (go_at_call 92; refine (HN.out _).mono ?_; rintro e w' ⟨rfl, rfl⟩)
              refine ⟨⟨k + 1, by omega, by simp, f + (x.length + 1), ?_, hfx, HF2, d2, rfl, hd3, HD2⟩, ?_⟩
              · congr 1
              · simp [intOf]; omega
            · have HE : Hid (d = mfold m0 (lay 1 ss)) := by
                show _ = _
                rw [HD.out, List.take_of_length_le (by omega)]
              go_wp2
              go_ret2
              exact ⟨by rw [← HE.out]; rfl, HO.out.2⟩
      · have hf : faultL s.data.toList = 0 := fault_closed hop
        rw [he, hf]
        clear he hf hop
        go_enter Tryz.func87, Tryz.ntmps87
        go_wp2_with (go_at_call 88; refine (is_any s hl _).mono ?_; rintro e w1 ⟨rfl, hb1⟩; rw [hb])
        go_ret2
        exact ⟨rfl, hb1⟩

end Go.Proofs.YtkcapiblicfboaaGreatDoor
