/- A manifest's bytes, read: get, numbers, Read. -/
import Derived.Test.YtjdigknhiopdeaaGreatMaBJ
namespace Go.Proofs.YtjdigknhiopdeaaGreat
open Go.RowKit Go.Shelf
set_option maxRecDepth 8000

abbrev zeroM : Value := .agg #[.int .u32 0, .int .u32 0, .int .u32 0, .int .i64 0, .int .i64 0]

/-- A row of which k cells from o on were set. -/
def cellsK (base : List Value) (o : Nat) (xs : List Value) (k : Nat) : List Value := base.take o ++ (xs.take k ++ base.drop (o + k))

theorem cellsK_zero (base : List Value) (o : Nat) (xs : List Value) : cellsK base o xs 0 = base := by
  unfold cellsK
  simp

theorem cellsK_len (base : List Value) (o : Nat) (xs : List Value) (k : Nat) (h : o + k ≤ base.length) (hk : k ≤ xs.length) : (cellsK base o xs k).length = base.length := by
  unfold cellsK
  simp
  omega

theorem cellsK_at (base : List Value) (o : Nat) (xs : List Value) (k : Nat) (hk : k ≤ xs.length) (h : o + k < base.length) : (cellsK base o xs k)[o + k]? = base[o + k]? := by
  unfold cellsK
  rw [List.getElem?_append_right (by simp; omega), List.getElem?_append_right (by simp; omega)]
  have e1 : o + k - (base.take o).length - (xs.take k).length = 0 := by simp; omega
  rw [e1, List.getElem?_drop]
  rfl

theorem cellsK_next (base : List Value) (o : Nat) (xs : List Value) (k : Nat) (hk : k < xs.length) (h : o + xs.length ≤ base.length) : (cellsK base o xs k).set (o + k) xs[k] = cellsK base o xs (k + 1) := by
  unfold cellsK
  have h1 : (base.take o).length = o := by simp; omega
  have h2 : (xs.take k).length = k := by simp; omega
  rw [List.set_append_right _ _ (by omega), h1, List.set_append_right _ _ (by omega), h2, show o + k - o - k = 0 by omega, List.drop_eq_getElem_cons (by omega), List.take_succ_eq_append_getElem hk, List.append_assoc]
  rfl

/-- A Reader that went on, a row that was filled. -/
structure GtK (w w' : World) (g q : Nat) (v : Value) (rest : List Int) (cs : List Value) : Prop where
  rd : ∃ v', IsR w' g v' rest 0 ∧ ∀ k, v'.ownBlock = some k → v.ownBlock = some k
  row : w'.heap[q]? = some (.cells cs.toArray 27 (0, 0))
  kept : Kept w w' (fun k => k = g ∨ k = q)

set_option maxHeartbeats 1000000 in
theorem mget32 (g q b o : Nat) (v : Value) (l : List Int) (rest : List Int) (base : List Value) (w : World) (h : IsR w g v ((l.map be4).flatten ++ rest) 0) (hby : Byts ((l.map be4).flatten ++ rest)) (hq : w.heap[q]? = some (.cells base.toArray 27 (0, 0))) (hc : ∀ i, i < l.length → w.cell? ⟨b, i, none⟩ = some (.pointer (some ⟨q, o + i, none⟩))) (hbg : b ≠ g ∧ b ≠ q ∧ g ≠ q) (hv : ∀ k, v.ownBlock = some k → k ≠ q) (hl : l.length ≤ 10) (hln : o + l.length ≤ base.length) (hbi : ∀ i, o ≤ i → i < o + l.length → ∃ n, base[i]? = some (.int .u32 n)) :
    Calls Tryz.prog 36 #[.func (.func 37) #[.pointer (some ⟨g, 0, none⟩)] #[], .slice (some ⟨b, 0, none⟩) l.length l.length] w fun e w' => e = .returned (.tuple #[]) ∧ GtK w w' g q v rest (cellsK base o (l.map (Value.int .u32)) l.length) := by
  have H : Hid ((∀ i, i < l.length → w.cell? ⟨b, i, none⟩ = some (.pointer (some ⟨q, o + i, none⟩))) ∧ Byts ((l.map be4).flatten ++ rest)) := ⟨hc, hby⟩
  have H0 : Hid (GtK w w g q v (((l.drop 0).map be4).flatten ++ rest) (cellsK base o (l.map (Value.int .u32)) 0)) := by
    refine ⟨⟨v, h, fun _ e => e⟩, ?_, Kept.refl _ _⟩
    rw [cellsK_zero]
    exact hq
  have HBI : Hid _ := hbi
  have HV : Hid _ := hv
  clear h hc hby hq hbi hv
  go_enter Tryz.func36, Tryz.ntmps36
  go_wp2_with fail
  go_loopw [5, 8] (fun _ i wr => ∃ k : Nat, k ≤ l.length ∧ i = .int .i64 k ∧ Hid (GtK w wr g q v (((l.drop k).map be4).flatten ++ rest) (cellsK base o (l.map (Value.int .u32)) k))) (fun _ i _ => l.length - (intOf i).toNat)
  case atStart => exact ⟨0, Nat.zero_le _, rfl, H0⟩
  case round =>
    obtain ⟨k, hk, rfl, HP⟩ := hrel
    clear H0
    by_cases hlt : k < l.length
    · obtain ⟨⟨vk, hR, hvk⟩, hrow, hK⟩ := HP.out
      have hck : wr.cell? ⟨b, k, none⟩ = some (.pointer (some ⟨q, o + k, none⟩)) := hK.cell (H.out.1 k hlt) (fun e => by
        rcases e with e | e
        · exact hbg.1 e
        · exact hbg.2.1 e)
      have hlb := World.block_lt_of_cell? wr _ hck
      rw [List.drop_eq_getElem_cons hlt, List.map_cons, List.flatten_cons, List.append_assoc] at hR
      have hbyk : Byts (be4 l[k] ++ (((l.drop (k + 1)).map be4).flatten ++ rest)) := by
        have h1 := H.out.2
        have h2 : (l.map be4).flatten = ((l.take k).map be4).flatten ++ ((l.drop k).map be4).flatten := by rw [← List.flatten_append, ← List.map_append, List.take_append_drop]
        rw [h2, List.append_assoc, List.drop_eq_getElem_cons hlt, List.map_cons, List.flatten_cons, List.append_assoc] at h1
        exact fun x hx => h1 x (List.mem_append.2 (.inr hx))
      have HG : Hid (Calls Tryz.prog 37 #[.pointer (some ⟨g, 0, none⟩)] wr fun e w' => e = .returned (.int .u32 l[k]) ∧ Hid (GtK w (w'.setCell ⟨q, o + k, none⟩ (.int .u32 l[k])) g q v (((l.drop (k + 1)).map be4).flatten ++ rest) (cellsK base o (l.map (Value.int .u32)) (k + 1))) ∧ (∃ n, w'.cell? ⟨q, o + k, none⟩ = some (.int .u32 n)) ∧ w'.frozen? ⟨q, o + k, none⟩ = false ∧ q < w'.heap.size) := by
        refine (gU32 l[k] hR hbyk).mono ?_
        rintro e w2 ⟨rfl, hr2⟩
        refine ⟨rfl, ?_⟩
        obtain ⟨v2, i2, s2, k2⟩ := hr2
        have hrow2 : w2.heap[q]? = some (.cells (cellsK base o (l.map (Value.int .u32)) k).toArray 27 (0, 0)) := k2.heap hrow (fun e => hbg.2.2 e.symm)
        have hln2 : (cellsK base o (l.map (Value.int .u32)) k).length = base.length := cellsK_len _ _ _ _ (by omega) (by simpa using hk)
        refine ⟨⟨⟨v2, ?_, ?_⟩, ?_, ?_⟩, ?_, frozen_of_row w2 q _ _ _ hrow2, lt_of_block hrow2⟩
        · exact i2.kept (Kept.setCell (Kept.refl _ (fun k => k = q)) ⟨q, o + k, none⟩ _ (fun _ => rfl)) hbg.2.2 (fun j e => HV.out j (hvk j (s2 j e)))
        · exact fun j e => hvk j (s2 j e)
        · have h3 := heap_setK (i := o + k) (.int .u32 l[k]) hrow2
          have h4 := cellsK_next base o (l.map (Value.int .u32)) k (by simpa using hlt) (by rw [List.length_map]; omega)
          rw [List.getElem_map] at h4
          rw [h3, List.setIfInBounds_toArray, h4]
        · exact (hK.trans' k2 (fun j _ e => e) (fun j _ e => .inl e)).trans' (Kept.setCell (Kept.refl _ (fun k => k = q)) ⟨q, o + k, none⟩ _ (fun _ => rfl)) (fun j _ e => e) (fun j _ e => .inr e)
        · obtain ⟨n, hn⟩ := HBI.out (o + k) (by omega) (by omega)
          refine ⟨n, ?_⟩
          rw [cell_of_row w2 q (o + k) _ _ _ hrow2, List.getElem?_toArray, cellsK_at _ _ _ _ (by simpa using hk) (by omega)]
          exact hn
      clear hR hvk hrow hK HP hbyk
      generalize l[k] = x at *
      go_wp2_with fail
      refine Calls.mono HG.out ?_
      rintro e w2 ⟨rfl, HP2, ⟨n2, c2⟩, f2, l2⟩
      go_wp2_with fail
      go_roundw
      case rel => exact ⟨k + 1, by omega, by go_num, HP2⟩
      case measure => simp [intOf]; omega
    · obtain rfl : k = l.length := by omega
      rw [List.drop_of_length_le (Nat.le_refl _)] at HP
      go_wp2_with fail
      go_end0
      exact ⟨rfl, HP.out⟩

set_option maxHeartbeats 1000000 in
theorem mget64 (g q b o : Nat) (v : Value) (l : List Int) (rest : List Int) (base : List Value) (w : World) (h : IsR w g v ((l.map (fun n => be8 (up64 n))).flatten ++ rest) 0) (hby : Byts ((l.map (fun n => be8 (up64 n))).flatten ++ rest)) (hq : w.heap[q]? = some (.cells base.toArray 27 (0, 0))) (hc : ∀ i, i < l.length → w.cell? ⟨b, i, none⟩ = some (.pointer (some ⟨q, o + i, none⟩))) (hbd : ∀ x ∈ l, -9223372036854775808 ≤ x ∧ x ≤ 9223372036854775807) (hbg : b ≠ g ∧ b ≠ q ∧ g ≠ q) (hv : ∀ k, v.ownBlock = some k → k ≠ q) (hl : l.length ≤ 10) (hln : o + l.length ≤ base.length) (hbi : ∀ i, o ≤ i → i < o + l.length → ∃ n, base[i]? = some (.int .i64 n)) :
    Calls Tryz.prog 38 #[.func (.func 39) #[.pointer (some ⟨g, 0, none⟩)] #[], .slice (some ⟨b, 0, none⟩) l.length l.length] w fun e w' => e = .returned (.tuple #[]) ∧ GtK w w' g q v rest (cellsK base o (l.map (Value.int .i64)) l.length) := by
  have H : Hid ((∀ i, i < l.length → w.cell? ⟨b, i, none⟩ = some (.pointer (some ⟨q, o + i, none⟩))) ∧ Byts ((l.map (fun n => be8 (up64 n))).flatten ++ rest)) := ⟨hc, hby⟩
  have H0 : Hid (GtK w w g q v (((l.drop 0).map (fun n => be8 (up64 n))).flatten ++ rest) (cellsK base o (l.map (Value.int .i64)) 0)) := by
    refine ⟨⟨v, h, fun _ e => e⟩, ?_, Kept.refl _ _⟩
    rw [cellsK_zero]
    exact hq
  have HBI : Hid _ := hbi
  have HV : Hid _ := hv
  clear h hc hby hq hbi hv
  go_enter Tryz.func38, Tryz.ntmps38
  go_wp2_with fail
  go_loopw [5, 8] (fun _ i wr => ∃ k : Nat, k ≤ l.length ∧ i = .int .i64 k ∧ Hid (GtK w wr g q v (((l.drop k).map (fun n => be8 (up64 n))).flatten ++ rest) (cellsK base o (l.map (Value.int .i64)) k))) (fun _ i _ => l.length - (intOf i).toNat)
  case atStart => exact ⟨0, Nat.zero_le _, rfl, H0⟩
  case round =>
    obtain ⟨k, hk, rfl, HP⟩ := hrel
    clear H0
    by_cases hlt : k < l.length
    · obtain ⟨⟨vk, hR, hvk⟩, hrow, hK⟩ := HP.out
      have hck : wr.cell? ⟨b, k, none⟩ = some (.pointer (some ⟨q, o + k, none⟩)) := hK.cell (H.out.1 k hlt) (fun e => by
        rcases e with e | e
        · exact hbg.1 e
        · exact hbg.2.1 e)
      have hlb := World.block_lt_of_cell? wr _ hck
      rw [List.drop_eq_getElem_cons hlt, List.map_cons, List.flatten_cons, List.append_assoc] at hR
      have hbyk : Byts ((fun n => be8 (up64 n)) l[k] ++ (((l.drop (k + 1)).map (fun n => be8 (up64 n))).flatten ++ rest)) := by
        have h1 := H.out.2
        have h2 : (l.map (fun n => be8 (up64 n))).flatten = ((l.take k).map (fun n => be8 (up64 n))).flatten ++ ((l.drop k).map (fun n => be8 (up64 n))).flatten := by rw [← List.flatten_append, ← List.map_append, List.take_append_drop]
        rw [h2, List.append_assoc, List.drop_eq_getElem_cons hlt, List.map_cons, List.flatten_cons, List.append_assoc] at h1
        exact fun x hx => h1 x (List.mem_append.2 (.inr hx))
      have hxb := hbd _ (List.getElem_mem hlt)
      have HG : Hid (Calls Tryz.prog 39 #[.pointer (some ⟨g, 0, none⟩)] wr fun e w' => e = .returned (.int .i64 l[k]) ∧ Hid (GtK w (w'.setCell ⟨q, o + k, none⟩ (.int .i64 l[k])) g q v (((l.drop (k + 1)).map (fun n => be8 (up64 n))).flatten ++ rest) (cellsK base o (l.map (Value.int .i64)) (k + 1))) ∧ (∃ n, w'.cell? ⟨q, o + k, none⟩ = some (.int .i64 n)) ∧ w'.frozen? ⟨q, o + k, none⟩ = false ∧ q < w'.heap.size) := by
        refine (gI64 l[k] hR hbyk hxb.1 hxb.2).mono ?_
        rintro e w2 ⟨rfl, hr2⟩
        refine ⟨rfl, ?_⟩
        obtain ⟨v2, i2, s2, k2⟩ := hr2
        have hrow2 : w2.heap[q]? = some (.cells (cellsK base o (l.map (Value.int .i64)) k).toArray 27 (0, 0)) := k2.heap hrow (fun e => hbg.2.2 e.symm)
        have hln2 : (cellsK base o (l.map (Value.int .i64)) k).length = base.length := cellsK_len _ _ _ _ (by omega) (by simpa using hk)
        refine ⟨⟨⟨v2, ?_, ?_⟩, ?_, ?_⟩, ?_, frozen_of_row w2 q _ _ _ hrow2, lt_of_block hrow2⟩
        · exact i2.kept (Kept.setCell (Kept.refl _ (fun k => k = q)) ⟨q, o + k, none⟩ _ (fun _ => rfl)) hbg.2.2 (fun j e => HV.out j (hvk j (s2 j e)))
        · exact fun j e => hvk j (s2 j e)
        · have h3 := heap_setK (i := o + k) (.int .i64 l[k]) hrow2
          have h4 := cellsK_next base o (l.map (Value.int .i64)) k (by simpa using hlt) (by rw [List.length_map]; omega)
          rw [List.getElem_map] at h4
          rw [h3, List.setIfInBounds_toArray, h4]
        · exact (hK.trans' k2 (fun j _ e => e) (fun j _ e => .inl e)).trans' (Kept.setCell (Kept.refl _ (fun k => k = q)) ⟨q, o + k, none⟩ _ (fun _ => rfl)) (fun j _ e => e) (fun j _ e => .inr e)
        · obtain ⟨n, hn⟩ := HBI.out (o + k) (by omega) (by omega)
          refine ⟨n, ?_⟩
          rw [cell_of_row w2 q (o + k) _ _ _ hrow2, List.getElem?_toArray, cellsK_at _ _ _ _ (by simpa using hk) (by omega)]
          exact hn
      clear hR hvk hrow hK HP hbyk
      generalize l[k] = x at *
      go_wp2_with fail
      refine Calls.mono HG.out ?_
      rintro e w2 ⟨rfl, HP2, ⟨n2, c2⟩, f2, l2⟩
      go_wp2_with fail
      go_roundw
      case rel => exact ⟨k + 1, by omega, by go_num, HP2⟩
      case measure => simp [intOf]; omega
    · obtain rfl : k = l.length := by omega
      rw [List.drop_of_length_le (Nat.le_refl _)] at HP
      go_wp2_with fail
      go_end0
      exact ⟨rfl, HP.out⟩
end Go.Proofs.YtjdigknhiopdeaaGreat
