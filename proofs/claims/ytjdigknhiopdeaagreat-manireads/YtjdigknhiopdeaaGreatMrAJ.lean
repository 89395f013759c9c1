/- manifest.get over a Reader of any bytes, in any state: each number as the Reader gives it. -/
import Derived.Test.YtjdigknhiopdeaaGreatMaEJ
namespace Go.Proofs.YtjdigknhiopdeaaGreat
open Go.RowKit Go.Shelf
set_option maxRecDepth 8000

/-- A Reader's state behind k numbers of z bytes. -/
def stN (z : Nat) (bs : List Int) (f : Int) : Nat → List Int × Int
  | 0 => (bs, f)
  | k + 1 => ((rdNum z (stN z bs f k).1 (stN z bs f k).2).rest, (rdNum z (stN z bs f k).1 (stN z bs f k).2).fault)

/-- The k-th number of them. -/
def ouN (z : Nat) (bs : List Int) (f : Int) (k : Nat) : Int := (rdNum z (stN z bs f k).1 (stN z bs f k).2).out

theorem rdNum_byts (z : Nat) {bs : List Int} (f : Int) (h : Byts bs) : Byts (rdNum z bs f).rest := by
  unfold rdNum
  by_cases h1 : f ≠ 0
  · rw [if_pos h1]; exact h
  · rw [if_neg h1]
    by_cases h2 : bs.length < z
    · rw [if_pos h2]; exact h
    · rw [if_neg h2]; exact h.drop z

theorem stN_byts (z : Nat) {bs : List Int} (f : Int) (h : Byts bs) : ∀ k, Byts (stN z bs f k).1
  | 0 => h
  | k + 1 => rdNum_byts z _ (stN_byts z f h k)

/-- A Reader that went on, a row that was filled. -/
structure GtN (w w' : World) (g q : Nat) (v : Value) (st : List Int × Int) (cs : List Value) : Prop where
  rd : ∃ v', IsR w' g v' st.1 st.2 ∧ ∀ k, v'.ownBlock = some k → v.ownBlock = some k
  row : w'.heap[q]? = some (.cells cs.toArray 27 (0, 0))
  kept : Kept w w' (fun k => k = g ∨ k = q)

set_option maxHeartbeats 1000000 in
theorem mgetN4 (g q b o : Nat) (v : Value) (n : Nat) (bs : List Int) (f : Int) (base : List Value) (w : World) (h : IsR w g v bs f) (hby : Byts bs) (hq : w.heap[q]? = some (.cells base.toArray 27 (0, 0))) (hc : ∀ i, i < n → w.cell? ⟨b, i, none⟩ = some (.pointer (some ⟨q, o + i, none⟩))) (hbg : b ≠ g ∧ b ≠ q ∧ g ≠ q) (hv : ∀ k, v.ownBlock = some k → k ≠ q) (hl : n ≤ 10) (hln : o + n ≤ base.length) (hbi : ∀ i, o ≤ i → i < o + n → ∃ n, base[i]? = some (.int .u32 n)) :
    Calls Tryz.prog 36 #[.func (.func 37) #[.pointer (some ⟨g, 0, none⟩)] #[], .slice (some ⟨b, 0, none⟩) n n] w fun e w' => e = .returned (.tuple #[]) ∧ GtN w w' g q v (stN 4 bs f n) (cellsK base o ((List.range n).map (fun k => Value.int .u32 ((ouN 4 bs f k)))) n) := by
  have H : Hid ((∀ i, i < n → w.cell? ⟨b, i, none⟩ = some (.pointer (some ⟨q, o + i, none⟩))) ∧ Byts bs) := ⟨hc, hby⟩
  have H0 : Hid (GtN w w g q v (stN 4 bs f 0) (cellsK base o ((List.range n).map (fun k => Value.int .u32 ((ouN 4 bs f k)))) 0)) := by
    refine ⟨⟨v, h, fun _ e => e⟩, ?_, Kept.refl _ _⟩
    rw [cellsK_zero]
    exact hq
  have HBI : Hid _ := hbi
  have HV : Hid _ := hv
  clear h hc hby hq hbi hv
  go_enter Tryz.func36, Tryz.ntmps36
  go_wp2_with fail
  go_loopw [5, 8] (fun _ i wr => ∃ k : Nat, k ≤ n ∧ i = .int .i64 k ∧ Hid (GtN w wr g q v (stN 4 bs f k) (cellsK base o ((List.range n).map (fun k => Value.int .u32 ((ouN 4 bs f k)))) k))) (fun _ i _ => n - (intOf i).toNat)
  case atStart => exact ⟨0, Nat.zero_le _, rfl, H0⟩
  case round =>
    obtain ⟨k, hk, rfl, HP⟩ := hrel
    clear H0
    by_cases hlt : k < n
    · obtain ⟨⟨vk, hR, hvk⟩, hrow, hK⟩ := HP.out
      have hck : wr.cell? ⟨b, k, none⟩ = some (.pointer (some ⟨q, o + k, none⟩)) := hK.cell (H.out.1 k hlt) (fun e => by
        rcases e with e | e
        · exact hbg.1 e
        · exact hbg.2.1 e)
      have hlb := World.block_lt_of_cell? wr _ hck
      have hbyk : Byts (stN 4 bs f k).1 := stN_byts 4 f H.out.2 k
      have HG : Hid (Calls Tryz.prog 37 #[.pointer (some ⟨g, 0, none⟩)] wr fun e w' => e = .returned (.int .u32 ((ouN 4 bs f k))) ∧ Hid (GtN w (w'.setCell ⟨q, o + k, none⟩ (.int .u32 ((ouN 4 bs f k)))) g q v (stN 4 bs f (k + 1)) (cellsK base o ((List.range n).map (fun k => Value.int .u32 ((ouN 4 bs f k)))) (k + 1))) ∧ (∃ n, w'.cell? ⟨q, o + k, none⟩ = some (.int .u32 n)) ∧ w'.frozen? ⟨q, o + k, none⟩ = false ∧ q < w'.heap.size) := by
        refine (rUint32_any g vk _ _ wr hR hbyk).mono ?_
        rintro e w2 ⟨rfl, hr2⟩
        refine ⟨rfl, ?_⟩
        obtain ⟨v2, i2, s2, k2⟩ := hr2
        have hrow2 : w2.heap[q]? = some (.cells (cellsK base o ((List.range n).map (fun k => Value.int .u32 ((ouN 4 bs f k)))) k).toArray 27 (0, 0)) := k2.heap hrow (fun e => hbg.2.2 e.symm)
        have hln2 : (cellsK base o ((List.range n).map (fun k => Value.int .u32 ((ouN 4 bs f k)))) k).length = base.length := cellsK_len _ _ _ _ (by omega) (by simpa using hk)
        refine ⟨⟨⟨v2, ?_, ?_⟩, ?_, ?_⟩, ?_, frozen_of_row w2 q _ _ _ hrow2, lt_of_block hrow2⟩
        · exact i2.kept (Kept.setCell (Kept.refl _ (fun k => k = q)) ⟨q, o + k, none⟩ _ (fun _ => rfl)) hbg.2.2 (fun j e => HV.out j (hvk j (s2 j e)))
        · exact fun j e => hvk j (s2 j e)
        · have h3 := heap_setK (i := o + k) (.int .u32 ((ouN 4 bs f k))) hrow2
          have h4 := cellsK_next base o ((List.range n).map (fun k => Value.int .u32 ((ouN 4 bs f k)))) k (by simpa using hlt) (by rw [List.length_map, List.length_range]; omega)
          rw [List.getElem_map, List.getElem_range] at h4
          rw [h3, List.setIfInBounds_toArray, h4]
        · exact (hK.trans' k2 (fun j _ e => e) (fun j _ e => .inl e)).trans' (Kept.setCell (Kept.refl _ (fun k => k = q)) ⟨q, o + k, none⟩ _ (fun _ => rfl)) (fun j _ e => e) (fun j _ e => .inr e)
        · obtain ⟨n', hn'⟩ := HBI.out (o + k) (by omega) (by omega)
          refine ⟨n', ?_⟩
          rw [cell_of_row w2 q (o + k) _ _ _ hrow2, List.getElem?_toArray, cellsK_at _ _ _ _ (by simpa using hk) (by omega)]
          exact hn'
      clear hR hvk hrow hK HP hbyk
      generalize ouN 4 bs f k = x at *
      go_wp2_with fail
      refine Calls.mono HG.out ?_
      rintro e w2 ⟨rfl, HP2, ⟨n2, c2⟩, f2, l2⟩
      go_wp2_with fail
      go_roundw
      case rel => exact ⟨k + 1, by omega, by go_num, HP2⟩
      case measure => simp [intOf]; omega
    · obtain rfl : k = n := by omega
      go_wp2_with fail
      go_end0
      exact ⟨rfl, HP.out⟩

set_option maxHeartbeats 1000000 in
theorem mgetN8 (g q b o : Nat) (v : Value) (n : Nat) (bs : List Int) (f : Int) (base : List Value) (w : World) (h : IsR w g v bs f) (hby : Byts bs) (hq : w.heap[q]? = some (.cells base.toArray 27 (0, 0))) (hc : ∀ i, i < n → w.cell? ⟨b, i, none⟩ = some (.pointer (some ⟨q, o + i, none⟩))) (hbg : b ≠ g ∧ b ≠ q ∧ g ≠ q) (hv : ∀ k, v.ownBlock = some k → k ≠ q) (hl : n ≤ 10) (hln : o + n ≤ base.length) (hbi : ∀ i, o ≤ i → i < o + n → ∃ n, base[i]? = some (.int .i64 n)) :
    Calls Tryz.prog 38 #[.func (.func 39) #[.pointer (some ⟨g, 0, none⟩)] #[], .slice (some ⟨b, 0, none⟩) n n] w fun e w' => e = .returned (.tuple #[]) ∧ GtN w w' g q v (stN 8 bs f n) (cellsK base o ((List.range n).map (fun k => Value.int .i64 (wrap64 (ouN 8 bs f k)))) n) := by
  have H : Hid ((∀ i, i < n → w.cell? ⟨b, i, none⟩ = some (.pointer (some ⟨q, o + i, none⟩))) ∧ Byts bs) := ⟨hc, hby⟩
  have H0 : Hid (GtN w w g q v (stN 8 bs f 0) (cellsK base o ((List.range n).map (fun k => Value.int .i64 (wrap64 (ouN 8 bs f k)))) 0)) := by
    refine ⟨⟨v, h, fun _ e => e⟩, ?_, Kept.refl _ _⟩
    rw [cellsK_zero]
    exact hq
  have HBI : Hid _ := hbi
  have HV : Hid _ := hv
  clear h hc hby hq hbi hv
  go_enter Tryz.func38, Tryz.ntmps38
  go_wp2_with fail
  go_loopw [5, 8] (fun _ i wr => ∃ k : Nat, k ≤ n ∧ i = .int .i64 k ∧ Hid (GtN w wr g q v (stN 8 bs f k) (cellsK base o ((List.range n).map (fun k => Value.int .i64 (wrap64 (ouN 8 bs f k)))) k))) (fun _ i _ => n - (intOf i).toNat)
  case atStart => exact ⟨0, Nat.zero_le _, rfl, H0⟩
  case round =>
    obtain ⟨k, hk, rfl, HP⟩ := hrel
    clear H0
    by_cases hlt : k < n
    · obtain ⟨⟨vk, hR, hvk⟩, hrow, hK⟩ := HP.out
      have hck : wr.cell? ⟨b, k, none⟩ = some (.pointer (some ⟨q, o + k, none⟩)) := hK.cell (H.out.1 k hlt) (fun e => by
        rcases e with e | e
        · exact hbg.1 e
        · exact hbg.2.1 e)
      have hlb := World.block_lt_of_cell? wr _ hck
      have hbyk : Byts (stN 8 bs f k).1 := stN_byts 8 f H.out.2 k
      have HG : Hid (Calls Tryz.prog 39 #[.pointer (some ⟨g, 0, none⟩)] wr fun e w' => e = .returned (.int .i64 (wrap64 (ouN 8 bs f k))) ∧ Hid (GtN w (w'.setCell ⟨q, o + k, none⟩ (.int .i64 (wrap64 (ouN 8 bs f k)))) g q v (stN 8 bs f (k + 1)) (cellsK base o ((List.range n).map (fun k => Value.int .i64 (wrap64 (ouN 8 bs f k)))) (k + 1))) ∧ (∃ n, w'.cell? ⟨q, o + k, none⟩ = some (.int .i64 n)) ∧ w'.frozen? ⟨q, o + k, none⟩ = false ∧ q < w'.heap.size) := by
        refine (rInt64_any g vk _ _ wr hR hbyk).mono ?_
        rintro e w2 ⟨rfl, hr2⟩
        refine ⟨rfl, ?_⟩
        obtain ⟨v2, i2, s2, k2⟩ := hr2
        have hrow2 : w2.heap[q]? = some (.cells (cellsK base o ((List.range n).map (fun k => Value.int .i64 (wrap64 (ouN 8 bs f k)))) k).toArray 27 (0, 0)) := k2.heap hrow (fun e => hbg.2.2 e.symm)
        have hln2 : (cellsK base o ((List.range n).map (fun k => Value.int .i64 (wrap64 (ouN 8 bs f k)))) k).length = base.length := cellsK_len _ _ _ _ (by omega) (by simpa using hk)
        refine ⟨⟨⟨v2, ?_, ?_⟩, ?_, ?_⟩, ?_, frozen_of_row w2 q _ _ _ hrow2, lt_of_block hrow2⟩
        · exact i2.kept (Kept.setCell (Kept.refl _ (fun k => k = q)) ⟨q, o + k, none⟩ _ (fun _ => rfl)) hbg.2.2 (fun j e => HV.out j (hvk j (s2 j e)))
        · exact fun j e => hvk j (s2 j e)
        · have h3 := heap_setK (i := o + k) (.int .i64 (wrap64 (ouN 8 bs f k))) hrow2
          have h4 := cellsK_next base o ((List.range n).map (fun k => Value.int .i64 (wrap64 (ouN 8 bs f k)))) k (by simpa using hlt) (by rw [List.length_map, List.length_range]; omega)
          rw [List.getElem_map, List.getElem_range] at h4
          rw [h3, List.setIfInBounds_toArray, h4]
        · exact (hK.trans' k2 (fun j _ e => e) (fun j _ e => .inl e)).trans' (Kept.setCell (Kept.refl _ (fun k => k = q)) ⟨q, o + k, none⟩ _ (fun _ => rfl)) (fun j _ e => e) (fun j _ e => .inr e)
        · obtain ⟨n', hn'⟩ := HBI.out (o + k) (by omega) (by omega)
          refine ⟨n', ?_⟩
          rw [cell_of_row w2 q (o + k) _ _ _ hrow2, List.getElem?_toArray, cellsK_at _ _ _ _ (by simpa using hk) (by omega)]
          exact hn'
      clear hR hvk hrow hK HP hbyk
      generalize wrap64 (ouN 8 bs f k) = x at *
      go_wp2_with fail
      refine Calls.mono HG.out ?_
      rintro e w2 ⟨rfl, HP2, ⟨n2, c2⟩, f2, l2⟩
      go_wp2_with fail
      go_roundw
      case rel => exact ⟨k + 1, by omega, by go_num, HP2⟩
      case measure => simp [intOf]; omega
    · obtain rfl : k = n := by omega
      go_wp2_with fail
      go_end0
      exact ⟨rfl, HP.out⟩
end Go.Proofs.YtjdigknhiopdeaaGreat
