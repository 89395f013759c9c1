/- What the document's Point, Good answer, put together. -/
import Derived.Test.YtkcapiblicfboaaGreatDoorPaGtwoJ
import Derived.Test.YtkcapiblicfboaaGreatDoorPaGthreeJ
import Derived.Test.YtkcapiblicfboaaGreatDoorPaGfourJ
namespace Go.Proofs.YtkcapiblicfboaaGreatDoor
open Go.RowKit Go.Shelf
set_option maxRecDepth 8000

set_option maxHeartbeats 2000000 in
theorem point_any (s : ByteArray) (p : Nat) (hp : p < s.size) (hl : s.size ≤ 4294967296) (w : World) :
    Calls Tryz.prog 100 #[.string s, .int .i64 (p : Int)] w (pointPost (s.data.toList.drop p) w) := by
  have hb0 : bn (s.data.toList.drop p) 0 = s[p].toNat := (bn_at s p 0 hp).symm
  have h256 : s[p].toNat < 256 := s[p].toNat_lt
  by_cases h1 : s[p].toNat < 128
  · have HE : Hid (dec (s.data.toList.drop p) = (s[p].toNat, 1)) := by
      show _ = _
      rw [dec_low _ (by omega), hb0]
    clear hb0
    go_enter Tryz.func100, Tryz.ntmps100
    go_wp2
    go_ret2
    refine ⟨⟨(s[p].toNat : Int), ?_, .inl ?_⟩, rfl⟩
    · rw [HE.out]; rfl
    · rw [HE.out]
  · by_cases h2 : s[p].toNat < 192 ∨ 248 ≤ s[p].toNat
    · have HE : Hid (dec (s.data.toList.drop p) = (65533, 1)) := dec_bad _ (by omega) (by omega)
      clear hb0
      go_enter Tryz.func100, Tryz.ntmps100
      rcases h2 with h2 | h2
      · go_wp2
        all_goals (go_ret2; exact point_none HE.out)
      · go_wp2
        all_goals (go_ret2; exact point_none HE.out)
    · by_cases h3 : s[p].toNat < 224
      · exact point_two s p hp hl w (by omega)
      · by_cases h4 : s[p].toNat < 240
        · exact point_three s p hp hl w (by omega)
        · exact point_four s p hp hl w (by omega)

/-- May this number stand in a name? -/
def goodI (c : Int) : Bool := standI c && decide (c ≠ 47)

theorem good_any (c : Int) (w : World) : Calls Tryz.prog 101 #[.int .i64 c] w fun e w' => e = .returned (.bool (goodI c)) ∧ w' = w := by
  have hs : goodI c = true ↔ (31 < c ∧ (c < 127 ∨ 159 < c) ∧ (c < 57344 ∨ 63743 < c) ∧ (c < 65520 ∨ 65535 < c)) ∧ c ≠ 47 := by
    unfold goodI standI
    simp
  have HS : Hid _ := hs
  clear hs
  go_enter Tryz.func101, Tryz.ntmps101
  go_wp2
  all_goals (go_ret; refine ⟨?_, rfl⟩; refine congrArg (fun b => Ending.returned (Value.bool b)) ?_; rw [Bool.eq_iff_iff, HS.out]; simp only [Bool.and_eq_true, Bool.not_eq_true', Bool.false_eq_true, false_iff, decide_eq_false_iff_not, bne_iff_ne])
  all_goals omega

end Go.Proofs.YtkcapiblicfboaaGreatDoor

/- Plain facts: code points of names, and the least fault among all names, as the document looks for it. No Go function is walked here. -/
namespace Go.Proofs.YtkcapiblicfboaaGreatDoor
open Go.RowKit Go.Shelf
set_option maxRecDepth 8000

theorem dec_cases (l : Bs) : (dec l = (bn l 0, 1) ∧ bn l 0 < 128) ∨ dec l = (65533, 1) ∨ (192 ≤ bn l 0 ∧ 128 ≤ (dec l).1 ∧ ∀ j, 1 ≤ j → j < (dec l).2 → 128 ≤ bn l j) := by
  by_cases h0 : bn l 0 < 128
  · exact .inl ⟨dec_low l h0, h0⟩
  · refine .inr ?_
    by_cases h1 : bn l 0 < 192 ∨ 248 ≤ bn l 0
    · exact .inl (dec_bad l (by omega) h1)
    · obtain ⟨n, c0, least, hn, hle⟩ : ∃ n c0 least, ((n = 2 ∧ 192 ≤ bn l 0 ∧ bn l 0 < 224 ∧ c0 = (bn l 0 : Int) - 192 ∧ least = 128) ∨ (n = 3 ∧ 224 ≤ bn l 0 ∧ bn l 0 < 240 ∧ c0 = (bn l 0 : Int) - 224 ∧ least = 2048) ∨ (n = 4 ∧ 240 ≤ bn l 0 ∧ bn l 0 < 248 ∧ c0 = (bn l 0 : Int) - 240 ∧ least = 65536)) ∧ (128 : Int) ≤ least := by
        by_cases h2 : bn l 0 < 224
        · exact ⟨2, _, 128, .inl ⟨rfl, by omega, h2, rfl, rfl⟩, by omega⟩
        · by_cases h3 : bn l 0 < 240
          · exact ⟨3, _, 2048, .inr (.inl ⟨rfl, by omega, h3, rfl, rfl⟩), by omega⟩
          · exact ⟨4, _, 65536, .inr (.inr ⟨rfl, by omega, by omega, rfl, rfl⟩), by omega⟩
      by_cases hg : ∀ j, 1 ≤ j → j < n → Goes l j
      · have hd := dec_goes l n c0 least hn hg
        by_cases hb : accI l c0 (n - 1) < least ∨ accI l c0 (n - 1) > 1114111 ∨ (55296 ≤ accI l c0 (n - 1) ∧ accI l c0 (n - 1) ≤ 57343)
        · exact .inl (hd.1 hb)
        · obtain ⟨e1, e2⟩ := hd.2 hb
          refine .inr ⟨by omega, by omega, fun j h1 h2 => ?_⟩
          rw [e2] at h2
          exact (hg j h1 h2).2.1
      · obtain ⟨j, hj⟩ := Classical.not_forall.1 hg
        have hj : 1 ≤ j ∧ j < n ∧ ¬ Goes l j := by
          refine ⟨?_, ?_, ?_⟩
          · exact Classical.byContradiction fun h => hj (fun h1 => absurd h1 h)
          · exact Classical.byContradiction fun h => hj (fun _ h2 => absurd h2 h)
          · exact fun h => hj (fun _ _ => h)
        exact .inl (dec_stop l n (by omega) j hj.1 hj.2.1 hj.2.2)

theorem not_stand_bad : stand 65533 = false := by decide

/-- A code point that may stand has no slash among its bytes, unless it is one. -/
theorem dec_noslash (l : Bs) (h : stand (dec l).1 = true) (h47 : (dec l).1 ≠ 47) : ∀ j, j < (dec l).2 → bn l j ≠ 47 := by
  rcases dec_cases l with ⟨e, h0⟩ | e | ⟨h0, _, h2⟩
  · rw [e] at h47 ⊢
    intro j hj
    have : j = 0 := by simp at hj; omega
    subst this
    exact h47
  · rw [e] at h; simp [not_stand_bad] at h
  · intro j hj
    by_cases hz : j = 0
    · subst hz; omega
    · have := h2 j (by omega) hj; omega

/-- The place of the first code point that no name may have. -/
def rg (l : Bs) : Option Nat :=
  if _h : l = [] then none
  else if stand (dec l).1 && decide ((dec l).1 ≠ 47) then (rg (l.drop (dec l).2)).map (· + (dec l).2) else some 0
termination_by l.length
decreasing_by
  have := dec_width l ‹_›
  rw [List.length_drop]
  omega

theorem rg_nil : rg [] = none := by rw [rg]; simp
theorem rg_cons {l : Bs} (h : l ≠ []) : rg l = if stand (dec l).1 && decide ((dec l).1 ≠ 47) then (rg (l.drop (dec l).2)).map (· + (dec l).2) else some 0 := by
  rw [rg]; simp [h]

theorem bn_mem {l : Bs} {j : Nat} (hj : j < l.length) (h : bn l j = 47) : (47 : UInt8) ∈ l := by
  unfold bn at h
  rw [List.getD_eq_getElem?_getD, List.getElem?_eq_getElem hj] at h
  have : l[j] = 47 := UInt8.toNat_inj.1 (by simpa using h)
  rw [← this]; exact List.getElem_mem _

theorem mem_bn {l : Bs} (h : (47 : UInt8) ∈ l) : ∃ j, j < l.length ∧ bn l j = 47 := by
  obtain ⟨j, hj, e⟩ := List.mem_iff_getElem.1 h
  refine ⟨j, hj, ?_⟩
  unfold bn
  rw [List.getD_eq_getElem?_getD, List.getElem?_eq_getElem hj, e]
  rfl

theorem rg_rf (n : Nat) : ∀ l : Bs, l.length ≤ n → NoSlash l → rg l = rf l := by
  induction n with
  | zero =>
    intro l hl _
    have : l = [] := List.eq_nil_of_length_eq_zero (by omega)
    subst this
    rw [rg_nil, rf_nil]
  | succ n ih =>
    intro l hl hn
    by_cases h0 : l = []
    · subst h0; rw [rg_nil, rf_nil]
    · have hw := dec_width l h0
      rw [rg_cons h0, rf_cons h0, ih _ (by rw [List.length_drop]; omega) (fun h => hn (List.mem_of_mem_drop h))]
      have h47 : (dec l).1 ≠ 47 := fun e => by
        have hp := List.length_pos_iff.2 h0
        rcases dec_cases l with ⟨e1, _⟩ | e1 | ⟨_, h1, _⟩
        · rw [e1] at e; exact hn (bn_mem hp e)
        · rw [e1] at e; simp at e
        · omega
      simp [h47]

theorem rg_noslash (n : Nat) : ∀ l : Bs, l.length ≤ n → rg l = none → NoSlash l := by
  induction n with
  | zero =>
    intro l hl _
    have : l = [] := List.eq_nil_of_length_eq_zero (by omega)
    subst this
    simp [NoSlash]
  | succ n ih =>
    intro l hl hr
    by_cases h0 : l = []
    · subst h0; simp [NoSlash]
    · have hw := dec_width l h0
      rw [rg_cons h0] at hr
      split at hr
      · rename_i hc
        simp only [Bool.and_eq_true, decide_eq_true_eq] at hc
        have h1 : rg (l.drop (dec l).2) = none := by
          cases e : rg (l.drop (dec l).2) with
          | none => rfl
          | some k => rw [e] at hr; simp at hr
        have h2 := ih _ (by rw [List.length_drop]; omega) h1
        intro hm
        obtain ⟨j, hj, e⟩ := mem_bn hm
        by_cases hlt : j < (dec l).2
        · exact dec_noslash l hc.1 hc.2 j hlt e
        · refine h2 (bn_mem (j := j - (dec l).2) (by rw [List.length_drop]; omega) ?_)
          unfold bn at e ⊢
          rw [List.getD_eq_getElem?_getD, List.getElem?_drop, Nat.add_sub_cancel' (by omega), ← List.getD_eq_getElem?_getD]
          exact e
      · simp at hr

/-- A name, as the document asks for it. -/
def nameB (s : Bs) : Bool := decide (nf s = none) && decide (rg s = none)

theorem nameB_iff (s : Bs) : nameB s = true ↔ NameOK s ∧ NoSlash s := by
  unfold nameB NameOK
  simp only [Bool.and_eq_true, decide_eq_true_eq]
  constructor
  · rintro ⟨h1, h2⟩
    have h3 := rg_noslash _ s (Nat.le_refl _) h2
    exact ⟨⟨h1, by rw [← rg_rf _ s (Nat.le_refl _) h3]; exact h2⟩, h3⟩
  · rintro ⟨⟨h1, h2⟩, h3⟩
    exact ⟨h1, by rw [rg_rf _ s (Nat.le_refl _) h3]; exact h2⟩

/-- The lesser of a number and a place behind another one, where there is one. -/
def mn (d f : Nat) (o : Option Nat) : Nat := match o with | none => d | some k => min d (f + k)

/-- The least fault, name by name. -/
def mfold (m : Nat) (l : List (Nat × Bs)) : Nat := l.foldl (fun m x => mn (mn m x.1 (nf x.2)) x.1 (rg x.2)) m

theorem mfold_min : ∀ (ss : List Bs) (f m : Nat), (∀ s ∈ ss, NoSlash s) → m ≤ sound → f + total ss ≤ sound →
    mfold m (lay f ss) = min m (min ((firstF nf (lay f ss)).getD sound) ((firstF rf (lay f ss)).getD sound)) := by
  intro ss
  induction ss with
  | nil => intro f m _ hm _; simp [mfold, lay, firstF]; omega
  | cons s t ih =>
    intro f m hn hm ht
    simp only [total] at ht
    have hns : NoSlash s := hn s (by simp)
    have hg := rg_rf _ s (Nat.le_refl _) hns
    have e : mfold m (lay f (s :: t)) = mfold (mn (mn m f (nf s)) f (rf s)) (lay (f + s.length + 1) t) := by
      simp only [lay, mfold, List.foldl_cons, hg]
    have hm' : mn (mn m f (nf s)) f (rf s) ≤ sound := by
      unfold mn
      cases nf s <;> cases rf s <;> simp <;> omega
    rw [e, ih _ _ (fun s hs => hn s (by simp [hs])) hm' (by omega)]
    have gN : f + s.length + 1 ≤ (firstF nf (lay (f + s.length + 1) t)).getD sound := by
      cases h : firstF nf (lay (f + s.length + 1) t) with
      | none => simp; omega
      | some k => have := firstF_ge _ _ _ h; simp; omega
    have gR : f + s.length + 1 ≤ (firstF rf (lay (f + s.length + 1) t)).getD sound := by
      cases h : firstF rf (lay (f + s.length + 1) t) with
      | none => simp; omega
      | some k => have := firstF_ge _ _ _ h; simp; omega
    simp only [lay, firstF]
    cases h1 : nf s with
    | none =>
      cases h2 : rf s with
      | none => simp [mn]
      | some k => have := rf_le h2; simp [mn]; omega
    | some j =>
      have := nf_le h1
      cases h2 : rf s with
      | none => simp [mn]; omega
      | some k => have := rf_le h2; simp [mn]; omega

/-- Where a text that begins with a slash is no path: the least fault. -/
theorem fault_fold (r : Bs) (hr : r ≠ []) (hl : r.length ≤ 4294967296) (hf : faultL (47 :: r) ≠ sound) :
    mfold (if 64 < (47 :: r).length then 64 else (47 :: r).length + 1) (lay 1 (segs r)) = faultL (47 :: r) := by
  rw [mfold_min _ _ _ (segs_noslash r) (by split <;> simp [sound]; omega) (by rw [total_segs]; unfold sound; omega), fault_slash r hr]
  have hle := (fault_le (47 :: r) (by unfold sound; simp; omega)).resolve_left hf
  rw [fault_slash r hr] at hle hf
  unfold sizeF at *
  generalize (firstF rf (lay 1 (segs r))).getD sound = a at *
  generalize (firstF nf (lay 1 (segs r))).getD sound = b at *
  split
  · rename_i h
    rw [if_pos h] at hle
    simp only [Option.getD_some] at *
    omega
  · rename_i h
    rw [if_neg h] at hle hf
    simp only [Option.getD_none] at *
    omega

/-- A path, as the document looks for it. -/
theorem isPb_cons (r : Bs) (hr : r ≠ []) (hl : r.length ≤ 4294967295) : isPb (47 :: r) = (decide ((47 :: r).length ≤ 64) && (segs r).all nameB) := by
  rw [Bool.eq_iff_iff, isPb_iff (by simp; omega)]
  simp only [Bool.and_eq_true, decide_eq_true_eq, List.all_eq_true, nameB_iff]
  constructor
  · rintro (h | ⟨r', e, h1, h2⟩)
    · simp at h; exact absurd h hr
    · simp only [List.cons.injEq, true_and] at e
      subst e
      exact ⟨h1, fun s hs => ⟨h2 s hs, segs_noslash r s hs⟩⟩
  · rintro ⟨h1, h2⟩
    exact .inr ⟨r, rfl, h1, fun s hs => (h2 s hs).1⟩

end Go.Proofs.YtkcapiblicfboaaGreatDoor
