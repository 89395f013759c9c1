/- What the document's Is answers. -/
import Derived.Test.YtgdbcdddcejehaaPaKJ
namespace Go.Proofs.Ytgdbcdddcejehaa
open Go.RowKit Go.Shelf
set_option maxRecDepth 8000

theorem all_take {xs : List Bs} {k : Nat} (hk : k < xs.length) : (xs.take (k + 1)).all nameB = ((xs.take k).all nameB && nameB (xs[k])) := by
  rw [List.take_succ_eq_append_getElem hk, List.all_append, List.all_cons, List.all_nil, Bool.and_true]

theorem bytes_size (l : Bs) : (⟨l.toArray⟩ : ByteArray).size = l.length := by rw [size_list]

theorem segs_len_le (r : Bs) : ∀ s ∈ segs r, s.length ≤ r.length := by
  have h : ∀ (ss : List Bs) (s : Bs), s ∈ ss → s.length + 1 ≤ total ss := by
    intro ss
    induction ss with
    | nil => intro s hs; simp at hs
    | cons x t ih =>
      intro s hs
      simp only [List.mem_cons] at hs
      simp only [total]
      rcases hs with rfl | hs
      · omega
      · have := ih s hs; omega
  intro s hs
  have := h _ s hs
  rw [total_segs] at this
  omega

theorem segs_count (r : Bs) : (segs r).length ≤ r.length + 1 := by
  have h : ∀ ss : List Bs, ss.length ≤ total ss := by
    intro ss
    induction ss with
    | nil => simp [total]
    | cons x t ih => simp only [total, List.length_cons]; omega
  have := h (segs r)
  rw [total_segs] at this
  exact this

theorem head_cases (s : ByteArray) (h0 : 0 < s.size) : (∃ r, s.data.toList = 47 :: r ∧ ((s[0].toNat : Int) != 47) = false ∧ r.length + 1 = s.size) ∨ (opens s.data.toList = false ∧ ((s[0].toNat : Int) != 47) = true) := by
  have hz := size_list s
  have hby := byte_at s 0 h0
  cases e : s.data.toList with
  | nil => rw [e] at hz; simp only [List.length_nil] at hz; omega
  | cons b r =>
    rw [e] at hby hz
    simp only [List.getD_cons_zero] at hby
    by_cases hb : b = 47
    · subst hb
      exact .inl ⟨r, rfl, by rw [hby]; rfl, by simpa using hz.symm⟩
    · refine .inr ⟨by simp [opens, hb], ?_⟩
      rw [bne_iff_ne, hby]
      intro h
      exact hb (UInt8.toNat_inj.1 (by show b.toNat = 47; omega))

theorem ownsT_shape {w : World} {base : Nat} {v : Value} {xs : List Bs} (h : OwnsT w base v xs) : ∃ ao c, v = .slice ao xs.length c := by
  rcases h.2 with ⟨rfl, h0⟩ | ⟨g, c, cur, rfl, _⟩
  · exact ⟨none, 0, by rw [h0]⟩
  · exact ⟨_, _, rfl⟩

theorem namesRoot (s : ByteArray) (hs : s.data.toList = [47]) (w : World) :
    Calls Try.prog 34 #[.string s] w fun e w' => e = .returned (.slice none 0 0) ∧ w' = w := by
  have e1 := eq_list s [47]
  rw [decide_eq_true hs] at e1
  clear hs
  go_enter Try.func34, Try.ntmps34
  go_wp2
  go_ret
  exact ⟨rfl, rfl⟩

set_option maxHeartbeats 1000000 in
theorem is_any (s : ByteArray) (hl : s.size ≤ 4294967295) (w : World) :
    Calls Try.prog 32 #[.string s] w fun e w' => e = .returned (.bool (isPb s.data.toList)) ∧ Below w.heap.size w w' := by
  by_cases h1 : s.size < 1
  · have hb : isPb s.data.toList = false := by
      have : s.data.toList = [] := List.eq_nil_of_length_eq_zero (by rw [← size_list]; omega)
      rw [this]; decide
    rw [hb]
    clear hb
    go_enter Try.func32, Try.ntmps32
    go_wp2
    go_ret
    exact ⟨rfl, Below.refl _ _⟩
  · have h0 : 0 < s.size := by omega
    rcases head_cases s h0 with ⟨r, hr, hn47, hrl⟩ | ⟨hop, hn47⟩
    · by_cases hr0 : r = []
      · subst hr0
        have hb : isPb s.data.toList = true := by rw [hr]; decide
        rw [hb]
        have hs1 : ¬ 64 < s.size := by simp at hrl; omega
        have HR : Hid (s.data.toList = [47]) := hr
        clear hb hr hrl
        go_enter Try.func32, Try.ntmps32
        go_wp2_with (go_at_call 34; refine (namesRoot s HR.out _).mono ?_; rintro e w1 ⟨rfl, rfl⟩)
        go_loop [4] (fun vi => vi = .int .i64 0) (fun _ => 0)
        case atStart => rfl
        case round =>
          subst hrel
          go_wp2
          go_ret
          exact ⟨rfl, Below.refl _ _⟩
      · have hb := isPb_cons r hr0 (by omega)
        by_cases h64 : 64 < s.size
        · have hf : isPb s.data.toList = false := by
            rw [hr, hb, decide_eq_false (by simp; omega)]; rfl
          rw [hf]
          clear hb hr hrl hf hn47
          go_enter Try.func32, Try.ntmps32
          go_wp2
          go_ret
          exact ⟨rfl, Below.refl _ _⟩
        · have hf : isPb s.data.toList = (segs r).all nameB := by
            rw [hr, hb, decide_eq_true (by simp; omega), Bool.true_and]
          rw [hf]
          have HR : Hid (s.data.toList = 47 :: r) := hr
          have hcnt := segs_count r
          have HL : Hid (∀ x ∈ segs r, x.length ≤ 4294967296) := fun x hx => by have := segs_len_le r x hx; omega
          clear hb hr hf
          go_enter Try.func32, Try.ntmps32
          go_wp2_with (go_at_call 34; refine (namesR_any s r HR.out hr0 (by omega) _).mono ?_; rintro e w1 ⟨v, rfl, ho, hb1⟩)
          obtain ⟨ss, hss⟩ : ∃ ss, ss = segs r := ⟨_, rfl⟩
          have HSs : Hid (ss = segs r) := hss
          rw [← hss] at ho hcnt HL
          clear hss
          have HO : Hid (OwnsT w1 w.heap.size v ss ∧ Below w.heap.size w w1) := ⟨ho, hb1⟩
          obtain ⟨ao, cp, rfl⟩ := ownsT_shape ho
          clear ho hb1
          go_wp2
          go_loop [4] (fun vi => ∃ k : Nat, k ≤ ss.length ∧ vi = .int .i64 (k : Int) ∧ Hid ((ss.take k).all nameB = true)) (fun vi => ss.length - (intOf vi).toNat)
          case atStart => exact ⟨0, Nat.zero_le _, rfl, by show _ = _; simp⟩
          case round =>
            obtain ⟨k, hk, rfl, HA⟩ := hrel
            by_cases hlt : k < ss.length
            · obtain ⟨g, c, e, hg, hc1, hc2, hcell⟩ := ownsT_cell HO.out.1 k hlt
              simp only [Value.slice.injEq] at e
              obtain ⟨rfl, _, rfl⟩ := e
              have hx := all_take hlt
              rw [HA.out, Bool.true_and] at hx
              have hxl := HL.out _ (List.getElem_mem hlt)
              generalize ss[k] = x at *
              have HN : Hid (∀ w, Calls Try.prog 37 #[bytesV x] w fun e w' => e = .returned (.bool (nameB x)) ∧ w' = w) := fun w => name_any ⟨x.toArray⟩ (by rw [bytes_size]; exact hxl) w
              have HX : Hid ((ss.take (k + 1)).all nameB = nameB x) := hx
              clear hx hxl
              go_wp2_with (go_at_call 37; refine (HN.out _).mono ?_; rintro e w' ⟨rfl, rfl⟩)
              · have hb : (!nameB x) = true := by assumption
                have hb : nameB x = false := by simpa using hb
                go_ret
                refine ⟨?_, HO.out.2⟩
                rw [← HSs.out, ← List.take_append_drop (k + 1) ss, List.all_append, HX.out, hb]
                rfl
              · have hb : (!nameB x) = false := by assumption
                have hb : nameB x = true := by simpa using hb
                refine ⟨⟨k + 1, by omega, by simp, by show _ = _; rw [HX.out, hb]⟩, ?_⟩
                simp [intOf]; omega
            · have HE : Hid (ss.all nameB = true) := by
                show _ = _
                have := HA.out
                rwa [List.take_of_length_le (by omega)] at this
              go_wp2
              go_ret
              exact ⟨by rw [← HSs.out, HE.out]; rfl, HO.out.2⟩
    · have hb : isPb s.data.toList = false := by
        unfold isPb
        rw [fault_closed hop]
        decide
      rw [hb]
      clear hb hop
      go_enter Try.func32, Try.ntmps32
      go_wp2
      all_goals (go_ret; exact ⟨rfl, Below.refl _ _⟩)

end Go.Proofs.Ytgdbcdddcejehaa

/- What the document's fault and Check answer. -/
namespace Go.Proofs.Ytgdbcdddcejehaa
open Go.RowKit Go.Shelf
set_option maxRecDepth 8000

/-- The rest of fault: the code points. -/
theorem mn_cast (d f : Nat) (k : Nat) : ((mn d f (some k) : Nat) : Int) = if ((f : Int) + k < d) then (f : Int) + k else d := by
  unfold mn
  simp only
  split <;> omega

end Go.Proofs.Ytgdbcdddcejehaa
