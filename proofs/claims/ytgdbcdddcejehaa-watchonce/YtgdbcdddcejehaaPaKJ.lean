/- What the document's Names and Is answer. -/
import Derived.Test.YtgdbcdddcejehaaPaJJ
namespace Go.Proofs.Ytgdbcdddcejehaa
open Go.RowKit Go.Shelf
set_option maxRecDepth 8000

/-- A list of texts in a row of one's own. -/
abbrev OwnsT (w : World) (base : Nat) (v : Value) (xs : List Bs) : Prop := w.ownsRow base 9 1 v xs.length (xs.map bytesV)

theorem Try.infoStr : (Try.prog.info? 9).map (fun i => (i.zero, i.size, i.bytes)) = some (some (.string ⟨#[]⟩), 1, 16) := by kernel_rfl

theorem addrAdd (b off n : Nat) : (⟨b, off, none⟩ : Addr).add n = ⟨b, off + n, none⟩ := by
  by_cases h : n = 0
  · subst h; simp [Addr.add]
  · simp [Addr.add, h]

theorem ownsRow_kept {w w' : World} {S : Nat → Prop} {base : Nat} {t : TypeId} {z n : Nat} {v : Value} {xs : List Value} (h : w.ownsRow base t z v n xs) (hk : Kept w w' S) (hn : ∀ k, v.ownBlock = some k → ¬ S k) : w'.ownsRow base t z v n xs := by
  refine ⟨h.1, ?_⟩
  rcases h.2 with h | ⟨g, cap, cur, rfl, h1, h2, h3⟩
  · exact .inl h
  · exact .inr ⟨g, cap, cur, rfl, h1, hk.heap h2 (hn g rfl), h3⟩

theorem ownsT_cell {w : World} {base : Nat} {v : Value} {xs : List Bs} (h : OwnsT w base v xs) (k : Nat) (hk : k < xs.length) : ∃ g c, v = .slice (some ⟨g, 0, none⟩) xs.length c ∧ base ≤ g ∧ xs.length ≤ c ∧ c ≤ 9223372036854775807 ∧ w.cell? ⟨g, k, none⟩ = some (bytesV (xs[k])) := by
  rcases h.2 with ⟨_, h0⟩ | ⟨g, c, cur, rfl, h1, h2, h3, h4, _⟩
  · omega
  · refine ⟨g, c, rfl, h1, h3, by unfold maxLen at h4; omega, ?_⟩
    have := h.cellAt k (by simpa using hk)
    rw [this]
    simp [hk]

theorem part_eq (s : ByteArray) (p : Nat) : s.extract p (p + (seg (s.data.toList.drop p)).length) = ⟨(seg (s.data.toList.drop p)).toArray⟩ := by
  rw [Lib.extract_eq, Nat.add_sub_cancel_left, ← seg_take]

theorem segs_at (l : Bs) : segs l = seg l :: (if 47 ∈ l then segs (l.drop ((seg l).length + 1)) else []) := by
  rcases seg_split l with ⟨h1, h2⟩ | ⟨b, hb⟩
  · rw [if_neg h1, segs_none h1, h2]
  · have hn := seg_noslash l
    obtain ⟨a, ha⟩ : ∃ a, a = seg l := ⟨_, rfl⟩
    rw [← ha] at hb hn ⊢
    subst hb
    rw [if_pos (by simp), segs_app, segs_none hn]
    simp

set_option maxHeartbeats 1000000 in
theorem namesR_any (s : ByteArray) (r : Bs) (hs : s.data.toList = 47 :: r) (hr : r ≠ []) (hl : s.size ≤ 4294967296) (w : World) :
    Calls Try.prog 34 #[.string s] w fun e w' => ∃ v, e = .returned v ∧ OwnsT w' w.heap.size v (segs r) ∧ Below w.heap.size w w' := by
  have hz := size_list s
  have e1 := eq_list s [47]
  rw [decide_eq_false (by rw [hs]; simpa using hr)] at e1
  have hz1 : 1 ≤ s.size := by rw [hz, hs]; simp
  have HS : Hid (s.data.toList = 47 :: r ∧ s.size = s.data.toList.length) := ⟨hs, hz⟩
  clear hz hs
  obtain ⟨i0, hi, hz0, hz1', hz2⟩ := info_parts Try.infoStr
  go_enter Try.func34, Try.ntmps34
  go_wp2
  go_loopw [3, 4] (fun v at' wr => ∃ (p : Nat) (pre : List Bs), p ≤ s.size + 1 ∧ 1 ≤ p ∧ at' = .int .i64 (p : Int) ∧ Hid (segs r = pre ++ (if p ≤ s.size then segs (s.data.toList.drop p) else [])) ∧ pre.length < p ∧ Hid (OwnsT wr w.heap.size v pre) ∧ Hid (Below w.heap.size w wr)) (fun _ i _ => s.size + 1 - (intOf i).toNat)
  case atStart =>
    refine ⟨1, [], by omega, Nat.le_refl _, rfl, ?_, by simp, World.ownsRow_nil _ _ _ _, Below.refl _ _⟩
    show _ = _
    rw [if_pos hz1, HS.out.1]
    simp
  case round =>
    obtain ⟨p, pre, hp, hp1, rfl, HP, hpl, HO, HB⟩ := hrel
    by_cases hle : p ≤ s.size
    · have hP := HP.out
      rw [if_pos hle, segs_at (s.data.toList.drop p)] at hP
      obtain ⟨q, hq⟩ : ∃ q, q = p + (seg (s.data.toList.drop p)).length := ⟨_, rfl⟩
      have hpart := part_eq s p
      have hsl : (seg (s.data.toList.drop p)).length ≤ s.size - p := by
        rcases seg_split (s.data.toList.drop p) with ⟨_, h⟩ | ⟨b, h⟩
        · rw [h, List.length_drop, ← HS.out.2]; omega
        · have := congrArg List.length h
          rw [List.length_drop, ← HS.out.2] at this
          simp at this
          omega
      have hqs : q ≤ s.size := by omega
      have hpq : p ≤ q := by omega
      rw [← hq] at hpart
      have hmem : (47 : UInt8) ∈ s.data.toList.drop p ↔ q < s.size := by
        rcases seg_split (s.data.toList.drop p) with ⟨h1, h⟩ | ⟨b, h⟩
        · rw [h, List.length_drop, ← HS.out.2] at hq
          exact ⟨fun hm => absurd hm h1, fun hm => by omega⟩
        · have := congrArg List.length h
          rw [List.length_drop, ← HS.out.2] at this
          simp at this
          exact ⟨fun _ => by omega, fun _ => by rw [h]; simp⟩
      have HN : Hid (segs r = (pre ++ [seg (s.data.toList.drop p)]) ++ (if q + 1 ≤ s.size then segs (s.data.toList.drop (q + 1)) else [])) := by
        show _ = _
        have hdd : (s.data.toList.drop p).drop ((seg (s.data.toList.drop p)).length + 1) = s.data.toList.drop (q + 1) := by
          rw [List.drop_drop]; congr 1; omega
        rw [hP, hdd]
        by_cases hm : q < s.size
        · rw [if_pos (hmem.2 hm), if_pos (by omega)]; simp
        · rw [if_neg (fun h => hm (hmem.1 h)), if_neg (by omega)]; simp
      have HEnd : Hid (∀ w, Calls Try.prog 39 #[.string s, .int .i64 (p : Int)] w fun e w' => e = .returned (.int .i64 (q : Int)) ∧ w' = w) := fun w => by
        have := end_any s p hle hl w
        rw [← hq] at this
        exact this
      clear hq hmem hP hsl
      generalize seg (s.data.toList.drop p) = nm at *
      have hsz := HB.out.size
      go_wp2_with (first
        | (go_at_call 39; refine (HEnd.out _).mono ?_; rintro e w' ⟨rfl, rfl⟩)
        | (at_builtin; refine wpList_append_own _ rfl _ _ 68 rfl w.heap.size 9 i0 (.string ⟨#[]⟩) 1 16 Try.underlying68 hi hz0 hz1' hz2 rfl (by decide) _ _ _ rfl (HO.out.alloc _) ⟨w'.heap.size, 0, none⟩ 1 1 [bytesV nm] rfl rfl ?c1 ?c2 ?c3 ?c4 ?c5 ?_))
      case c1 =>
        intro j u hj
        rw [addrAdd, Nat.zero_add, cell_of_row _ _ _ _ _ _ (heap_alloc_new _ _), ← hj]
        simp
      case c2 =>
        intro u hu
        simp only [List.mem_cons, List.not_mem_nil, or_false] at hu
        subst hu; rfl
      case c3 => unfold maxLen; omega
      case c4 => omega
      case c5 => simp; omega
      intro v' w1 hown' hgrow _
      have HR : Hid (OwnsT w1 w.heap.size v' (pre ++ [nm]) ∧ Below w.heap.size w w1) := by
        refine ⟨?_, (HB.out.alloc HB.out.size _).grown hgrow (by simp; omega) (fun k hk => (HO.out.lt k hk).1)⟩
        have e : (pre ++ [nm]).length = pre.length + 1 := by simp
        unfold OwnsT
        rw [e, List.map_append]
        exact hown'
      clear hown' hgrow
      go_wp2
      go_roundw
      case rel => exact ⟨q + 1, pre ++ [nm], by omega, by omega, by simp, HN, by simp; omega, HR.out.1, HR.out.2⟩
      case measure => simp [intOf]; omega
    · have HE : Hid (segs r = pre) := by
        show _ = _
        rw [HP.out, if_neg hle]; simp
      go_wp2
      go_ret
      exact ⟨_, rfl, by rw [HE.out]; exact HO.out, HB.out⟩

end Go.Proofs.Ytgdbcdddcejehaa
