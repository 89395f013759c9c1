/- What the document's Names and Is answer. -/
import Derived.Test.YtkcapiblicfboaaGreatDoorPaJJ
namespace Go.Proofs.YtkcapiblicfboaaGreatDoor
open Go.RowKit Go.Shelf
set_option maxRecDepth 8000

/-- A list of texts in a row of one's own. -/
abbrev OwnsT (w : World) (base : Nat) (v : Value) (xs : List Bs) : Prop := w.ownsRow base 9 1 v xs.length (xs.map bytesV)

theorem Tryz.infoStr : (Tryz.prog.info? 9).map (fun i => (i.zero, i.size, i.bytes)) = some (some (.string ⟨#[]⟩), 1, 16) := by kernel_rfl

theorem addrAdd (b off n : Nat) : (⟨b, off, none⟩ : Addr).add n = ⟨b, off + n, none⟩ := by
  by_cases h : n = 0
  · subst h; simp [Addr.add]
  · simp [Addr.add, h]

theorem ownsRow_kept {w w' : World} {S : Nat → Prop} {base : Nat} {t : TypeId} {z n : Nat} {v : Value} {xs : List Value} (h : w.ownsRow base t z v n xs) (hk : Kept w w' S) (hn : ∀ k, v.ownBlock = some k → ¬ S k) : w'.ownsRow base t z v n xs := by
  refine ⟨h.1, ?_⟩
  rcases h.2 with h | ⟨g, cap, cur, rfl, h1, h2, h3⟩
  · exact .inl h
  · exact .inr ⟨g, cap, cur, rfl, h1, hk.heap h2 (hn g rfl), h3⟩

theorem ownsT_cell {w : World} {base : Nat} {v : Value} {xs : List Bs} (h : OwnsT w base v xs) (k : Nat) (hk : k < xs.length) : ∃ g c, v = .slice (some ⟨g, 0, none⟩) xs.length c ∧ base ≤ g ∧ xs.length ≤ c ∧ c ≤ 9223372036854775807 ∧ w.cell? ⟨g, k, none⟩ = some (bytesV (xs[k])) := by
  rcases h.2 with ⟨_, h0⟩ | ⟨g, c, cur, rfl, h1, h2, h3, h4, _⟩
  · omega
  · refine ⟨g, c, rfl, h1, h3, by unfold maxLen at h4; omega, ?_⟩
    have := h.cellAt k (by simpa using hk)
    rw [this]
    simp [hk]

theorem part_eq (s : ByteArray) (p : Nat) : s.extract p (p + (seg (s.data.toList.drop p)).length) = ⟨(seg (s.data.toList.drop p)).toArray⟩ := by
  rw [Lib.extract_eq, Nat.add_sub_cancel_left, ← seg_take]

theorem segs_at (l : Bs) : segs l = seg l :: (if 47 ∈ l then segs (l.drop ((seg l).length + 1)) else []) := by
  rcases seg_split l with ⟨h1, h2⟩ | ⟨b, hb⟩
  · rw [if_neg h1, segs_none h1, h2]
  · have hn := seg_noslash l
    obtain ⟨a, ha⟩ : ∃ a, a = seg l := ⟨_, rfl⟩
    rw [← ha] at hb hn ⊢
    subst hb
    rw [if_pos (by simp), segs_app, segs_none hn]
    simp

set_option maxHeartbeats 1000000 in
theorem namesR_any (s : ByteArray) (r : Bs) (hs : s.data.toList = 47 :: r) (hr : r ≠ []) (hl : s.size ≤ 4294967296) (w : World) :
    Calls Tryz.prog 91 #[.string s] w fun e w' => ∃ v, e = .returned v ∧ OwnsT w' w.heap.size v (segs r) ∧ Below w.heap.size w w' := by
  have hz := size_list s
  have e1 := eq_list s [47]
  rw [decide_eq_false (by rw [hs]; simpa using hr)] at e1
  have hz1 : 1 ≤ s.size := by rw [hz, hs]; simp
  have HS : Hid (s.data.toList = 47 :: r ∧ s.size = s.data.toList.length) := ⟨hs, hz⟩
  clear hz hs
  obtain ⟨i0, hi, hz0, hz1', hz2⟩ := info_parts Tryz.infoStr
  go_enter Tryz.func91, Tryz.ntmps91
  go_wp2
  go_loopw [3, 4] (fun v at' wr => ∃ (p : Nat) (pre : List Bs), p ≤ s.size + 1 ∧ 1 ≤ p ∧ at' = .int .i64 (p : Int) ∧ Hid (segs r = pre ++ (if p ≤ s.size then segs (s.data.toList.drop p) else [])) ∧ pre.length < p ∧ Hid (OwnsT wr w.heap.size v pre) ∧ Hid (Below w.heap.size w wr)) (fun _ i _ => s.size + 1 - (intOf i).toNat)
  case atStart =>
    refine ⟨1, [], by omega, Nat.le_refl _, rfl, ?_, by simp, World.ownsRow_nil _ _ _ _, Below.refl _ _⟩
    show _ = _
    rw [if_pos hz1, HS.out.1]
    simp
  case round =>
    obtain ⟨p, pre, hp, hp1, rfl, HP, hpl, HO, HB⟩ := hrel
    by_cases hle : p ≤ s.size
    · have hP := HP.out
      rw [if_pos hle, segs_at (s.data.toList.drop p)] at hP
      obtain ⟨q, hq⟩ : ∃ q, q = p + (seg (s.data.toList.drop p)).length := ⟨_, rfl⟩
      have hpart := part_eq s p
      have hsl : (seg (s.data.toList.drop p)).length ≤ s.size - p := by
        rcases seg_split (s.data.toList.drop p) with ⟨_, h⟩ | ⟨b, h⟩
        · rw [h, List.length_drop, ← HS.out.2]; omega
        · have := congrArg List.length h
          rw [List.length_drop, ← HS.out.2] at this
          simp at this
          omega
      have hqs : q ≤ s.size := by omega
      have hpq : p ≤ q := by omega
      rw [← hq] at hpart
      have hmem : (47 : UInt8) ∈ s.data.toList.drop p ↔ q < s.size := by
        rcases seg_split (s.data.toList.drop p) with ⟨h1, h⟩ | ⟨b, h⟩
        · rw [h, List.length_drop, ← HS.out.2] at hq
          exact ⟨fun hm => absurd hm h1, fun hm => by omega⟩
        · have := congrArg List.length h
          rw [List.length_drop, ← HS.out.2] at this
          simp at this
          exact ⟨fun _ => by omega, fun _ => by rw [h]; simp⟩
      have HN : Hid (segs r = (pre ++ [seg (s.data.toList.drop p)]) ++ (if q + 1 ≤ s.size then segs (s.data.toList.drop (q + 1)) else [])) := by
        show _ = _
        have hdd : (s.data.toList.drop p).drop ((seg (s.data.toList.drop p)).length + 1) = s.data.toList.drop (q + 1) := by
          rw [List.drop_drop]; congr 1; omega
        rw [hP, hdd]
        by_cases hm : q < s.size
        · rw [if_pos (hmem.2 hm), if_pos (by omega)]; simp
        · rw [if_neg (fun h => hm (hmem.1 h)), if_neg (by omega)]; simp
      have HEnd : Hid (∀ w, Calls Tryz.prog 99 #[.string s, .int .i64 (p : Int)] w fun e w' => e = .returned (.int .i64 (q : Int)) ∧ w' = w) := fun w => by
        have := end_any s p hle hl w
        rw [← hq] at this
        exact this
      clear hq hmem hP hsl
      generalize seg (s.data.toList.drop p) = nm at *
      have hsz := HB.out.size
      go_wp2_with (first
        | (go_at_call 99; refine (HEnd.out _).mono ?_; rintro e w' ⟨rfl, rfl⟩)
        | (at_builtin; refine wpList_append_own _ rfl _ _ 118 rfl w.heap.size 9 i0 (.string ⟨#[]⟩) 1 16 Tryz.underlying118 hi hz0 hz1' hz2 rfl (by decide) _ _ _ rfl (HO.out.alloc _) ⟨w'.heap.size, 0, none⟩ 1 1 [bytesV nm] rfl rfl ?c1 ?c2 ?c3 ?c4 ?c5 ?_))
      case c1 =>
        intro j u hj
        rw [addrAdd, Nat.zero_add, cell_of_row _ _ _ _ _ _ (heap_alloc_new _ _), ← hj]
        simp
      case c2 =>
        intro u hu
        simp only [List.mem_cons, List.not_mem_nil, or_false] at hu
        subst hu; rfl
      case c3 => unfold maxLen; omega
      case c4 => omega
      case c5 => simp; omega
      intro v' w1 hown' hgrow _
      have HR : Hid (OwnsT w1 w.heap.size v' (pre ++ [nm]) ∧ Below w.heap.size w w1) := by
        refine ⟨?_, (HB.out.alloc HB.out.size _).grown hgrow (by simp; omega) (fun k hk => (HO.out.lt k hk).1)⟩
        have e : (pre ++ [nm]).length = pre.length + 1 := by simp
        unfold OwnsT
        rw [e, List.map_append]
        exact hown'
      clear hown' hgrow
      go_wp2
      go_roundw
      case rel => exact ⟨q + 1, pre ++ [nm], by omega, by omega, by simp, HN, by simp; omega, HR.out.1, HR.out.2⟩
      case measure => simp [intOf]; omega
    · have HE : Hid (segs r = pre) := by
        show _ = _
        rw [HP.out, if_neg hle]; simp
      go_wp2
      go_ret
      exact ⟨_, rfl, by rw [HE.out]; exact HO.out, HB.out⟩

end Go.Proofs.YtkcapiblicfboaaGreatDoor

/- What the document's Is answers. -/
namespace Go.Proofs.YtkcapiblicfboaaGreatDoor
open Go.RowKit Go.Shelf
set_option maxRecDepth 8000

theorem all_take {xs : List Bs} {k : Nat} (hk : k < xs.length) : (xs.take (k + 1)).all nameB = ((xs.take k).all nameB && nameB (xs[k])) := by
  rw [List.take_succ_eq_append_getElem hk, List.all_append, List.all_cons, List.all_nil, Bool.and_true]

theorem bytes_size (l : Bs) : (⟨l.toArray⟩ : ByteArray).size = l.length := by rw [size_list]

theorem segs_len_le (r : Bs) : ∀ s ∈ segs r, s.length ≤ r.length := by
  have h : ∀ (ss : List Bs) (s : Bs), s ∈ ss → s.length + 1 ≤ total ss := by
    intro ss
    induction ss with
    | nil => intro s hs; simp at hs
    | cons x t ih =>
      intro s hs
      simp only [List.mem_cons] at hs
      simp only [total]
      rcases hs with rfl | hs
      · omega
      · have := ih s hs; omega
  intro s hs
  have := h _ s hs
  rw [total_segs] at this
  omega

theorem segs_count (r : Bs) : (segs r).length ≤ r.length + 1 := by
  have h : ∀ ss : List Bs, ss.length ≤ total ss := by
    intro ss
    induction ss with
    | nil => simp [total]
    | cons x t ih => simp only [total, List.length_cons]; omega
  have := h (segs r)
  rw [total_segs] at this
  exact this

theorem head_cases (s : ByteArray) (h0 : 0 < s.size) : (∃ r, s.data.toList = 47 :: r ∧ ((s[0].toNat : Int) != 47) = false ∧ r.length + 1 = s.size) ∨ (opens s.data.toList = false ∧ ((s[0].toNat : Int) != 47) = true) := by
  have hz := size_list s
  have hby := byte_at s 0 h0
  cases e : s.data.toList with
  | nil => rw [e] at hz; simp only [List.length_nil] at hz; omega
  | cons b r =>
    rw [e] at hby hz
    simp only [List.getD_cons_zero] at hby
    by_cases hb : b = 47
    · subst hb
      exact .inl ⟨r, rfl, by rw [hby]; rfl, by simpa using hz.symm⟩
    · refine .inr ⟨by simp [opens, hb], ?_⟩
      rw [bne_iff_ne, hby]
      intro h
      exact hb (UInt8.toNat_inj.1 (by show b.toNat = 47; omega))

theorem ownsT_shape {w : World} {base : Nat} {v : Value} {xs : List Bs} (h : OwnsT w base v xs) : ∃ ao c, v = .slice ao xs.length c := by
  rcases h.2 with ⟨rfl, h0⟩ | ⟨g, c, cur, rfl, _⟩
  · exact ⟨none, 0, by rw [h0]⟩
  · exact ⟨_, _, rfl⟩

theorem namesRoot (s : ByteArray) (hs : s.data.toList = [47]) (w : World) :
    Calls Tryz.prog 91 #[.string s] w fun e w' => e = .returned (.slice none 0 0) ∧ w' = w := by
  have e1 := eq_list s [47]
  rw [decide_eq_true hs] at e1
  clear hs
  go_enter Tryz.func91, Tryz.ntmps91
  go_wp2
  go_ret
  exact ⟨rfl, rfl⟩

set_option maxHeartbeats 1000000 in
theorem is_any (s : ByteArray) (hl : s.size ≤ 4294967295) (w : World) :
    Calls Tryz.prog 88 #[.string s] w fun e w' => e = .returned (.bool (isPb s.data.toList)) ∧ Below w.heap.size w w' := by
  by_cases h1 : s.size < 1
  · have hb : isPb s.data.toList = false := by
      have : s.data.toList = [] := List.eq_nil_of_length_eq_zero (by rw [← size_list]; omega)
      rw [this]; decide
    rw [hb]
    clear hb
    go_enter Tryz.func88, Tryz.ntmps88
    go_wp2
    go_ret
    exact ⟨rfl, Below.refl _ _⟩
  · have h0 : 0 < s.size := by omega
    rcases head_cases s h0 with ⟨r, hr, hn47, hrl⟩ | ⟨hop, hn47⟩
    · by_cases hr0 : r = []
      · subst hr0
        have hb : isPb s.data.toList = true := by rw [hr]; decide
        rw [hb]
        have hs1 : ¬ 64 < s.size := by simp at hrl; omega
        have HR : Hid (s.data.toList = [47]) := hr
        clear hb hr hrl
        go_enter Tryz.func88, Tryz.ntmps88
        go_wp2_with (go_at_call 91; refine (namesRoot s HR.out _).mono ?_; rintro e w1 ⟨rfl, rfl⟩)
        go_loop [4] (fun vi => vi = .int .i64 0) (fun _ => 0)
        case atStart => rfl
        case round =>
          subst hrel
          go_wp2
          go_ret
          exact ⟨rfl, Below.refl _ _⟩
      · have hb := isPb_cons r hr0 (by omega)
        by_cases h64 : 64 < s.size
        · have hf : isPb s.data.toList = false := by
            rw [hr, hb, decide_eq_false (by simp; omega)]; rfl
          rw [hf]
          clear hb hr hrl hf hn47
          go_enter Tryz.func88, Tryz.ntmps88
          go_wp2
          go_ret
          exact ⟨rfl, Below.refl _ _⟩
        · have hf : isPb s.data.toList = (segs r).all nameB := by
            rw [hr, hb, decide_eq_true (by simp; omega), Bool.true_and]
          rw [hf]
          have HR : Hid (s.data.toList = 47 :: r) := hr
          have hcnt := segs_count r
          have HL : Hid (∀ x ∈ segs r, x.length ≤ 4294967296) := fun x hx => by have := segs_len_le r x hx; omega
          clear hb hr hf
          go_enter Tryz.func88, Tryz.ntmps88
          go_wp2_with (go_at_call 91; refine (namesR_any s r HR.out hr0 (by omega) _).mono ?_; rintro e w1 ⟨v, rfl, ho, hb1⟩)
          obtain ⟨ss, hss⟩ : ∃ ss, ss = segs r := ⟨_, rfl⟩
          have HSs : Hid (ss = segs r) := hss
          rw [← hss] at ho hcnt HL
          clear hss
          have HO : Hid (OwnsT w1 w.heap.size v ss ∧ Below w.heap.size w w1) := ⟨ho, hb1⟩
          obtain ⟨ao, cp, rfl⟩ := ownsT_shape ho
          clear ho hb1
          go_wp2
          go_loop [4] (fun vi => ∃ k : Nat, k ≤ ss.length ∧ vi = .int .i64 (k : Int) ∧ Hid ((ss.take k).all nameB = true)) (fun vi => ss.length - (intOf vi).toNat)
          case atStart => exact ⟨0, Nat.zero_le _, rfl, by show _ = _; simp⟩
          case round =>
            obtain ⟨k, hk, rfl, HA⟩ := hrel
            by_cases hlt : k < ss.length
            · obtain ⟨g, c, e, hg, hc1, hc2, hcell⟩ := ownsT_cell HO.out.1 k hlt
              simp only [Value.slice.injEq] at e
              obtain ⟨rfl, _, rfl⟩ := e
              have hx := all_take hlt
              rw [HA.out, Bool.true_and] at hx
              have hxl := HL.out _ (List.getElem_mem hlt)
              generalize ss[k] = x at *
              have HN : Hid (∀ w, Calls Tryz.prog 93 #[bytesV x] w fun e w' => e = .returned (.bool (nameB x)) ∧ w' = w) := fun w => name_any ⟨x.toArray⟩ (by rw [bytes_size]; exact hxl) w
              have HX : Hid ((ss.take (k + 1)).all nameB = nameB x) := hx
              clear hx hxl
              go_wp2_with (go_at_call 93; refine (HN.out _).mono ?_; rintro e w' ⟨rfl, rfl⟩)
              · have hb : (!nameB x) = true := by assumption
                have hb : nameB x = false := by simpa using hb
                go_ret
                refine ⟨?_, HO.out.2⟩
                rw [← HSs.out, ← List.take_append_drop (k + 1) ss, List.all_append, HX.out, hb]
                rfl
              · have hb : (!nameB x) = false := by assumption
                have hb : nameB x = true := by simpa using hb
                refine ⟨⟨k + 1, by omega, by simp, by show _ = _; rw [HX.out, hb]⟩, ?_⟩
                simp [intOf]; omega
            · have HE : Hid (ss.all nameB = true) := by
                show _ = _
                have := HA.out
                rwa [List.take_of_length_le (by omega)] at this
              go_wp2
              go_ret
              exact ⟨by rw [← HSs.out, HE.out]; rfl, HO.out.2⟩
    · have hb : isPb s.data.toList = false := by
        unfold isPb
        rw [fault_closed hop]
        decide
      rw [hb]
      clear hb hop
      go_enter Tryz.func88, Tryz.ntmps88
      go_wp2
      all_goals (go_ret; exact ⟨rfl, Below.refl _ _⟩)

end Go.Proofs.YtkcapiblicfboaaGreatDoor

/- What the document's fault and Check answer. -/
namespace Go.Proofs.YtkcapiblicfboaaGreatDoor
open Go.RowKit Go.Shelf
set_option maxRecDepth 8000

/-- The rest of fault: the code points. -/
theorem mn_cast (d f : Nat) (k : Nat) : ((mn d f (some k) : Nat) : Int) = if ((f : Int) + k < d) then (f : Int) + k else d := by
  unfold mn
  simp only
  split <;> omega

end Go.Proofs.YtkcapiblicfboaaGreatDoor
