/- GetList of package pack at ids and at entries, at bytes that were laid. -/
import Derived.Test.YtgaepncccfipeaaDoorWfCJ
import Derived.Test.YtgaepncccfipeaaDoorCopyLJ
namespace Go.Proofs.YtgaepncccfipeaaDoor
open Go.RowKit
set_option maxRecDepth 8000

theorem idsB_least (l : List IdD) : l.length ≤ (idsB l).length := by
  induction l with
  | nil => simp
  | cons x l ih =>
    have e : idsB (x :: l) = idB x ++ idsB l := by simp [idsB]
    have h1 : 1 ≤ (idB x).length := by simp [idB, txtB, be4]
    rw [e, List.length_append, List.length_cons]
    omega

theorem idsB_at (l : List IdD) (k : Nat) (h : k < l.length) (rest : List Int) : idsB (l.drop k) ++ rest = idB l[k] ++ (idsB (l.drop (k + 1)) ++ rest) := by
  unfold idsB
  rw [List.drop_eq_getElem_cons h, List.flatMap_cons, List.append_assoc]

set_option maxHeartbeats 2000000 in
theorem getListId_bk (l0 l1 : Int) (g : Nat) (v : Value) (l : List IdD) (rest : List Int) (most : Int) (w : World) (h : IsR w g v ((be4 l.length ++ idsB l) ++ rest) 0) (hb : Byts ((be4 l.length ++ idsB l) ++ rest)) (hm : (l.length : Int) ≤ most) (hl : l.length ≤ 1000) (hgd : ∀ x ∈ l, x.scheme.size ≤ 24 ∧ x.name.size ≤ 24) :
    Calls Tryd.prog 61 #[.pointer (some ⟨g, 0, none⟩), .int .i64 most, .func (.func 62) #[lay l0 l1] #[]] w fun e w' => ∃ u, e = .returned u ∧ w'.ownsRow w.heap.size 81 2 u (l.map IdD.cells).length (l.map IdD.cells).flatten ∧ ReadsTo w g v ⟨0, rest, 0⟩ w' := by
  rw [List.append_assoc] at h hb
  have ha : ahead (be4 l.length ++ (idsB l ++ rest)) = l.length := bk_ahead (by omega)
  have hle := idsB_least l
  have hlen : (be4 (l.length : Int) ++ (idsB l ++ rest)).length = 4 + ((idsB l).length + rest.length) := by rw [List.length_append, List.length_append]; rfl
  have H : Hid (IsR w g v (be4 l.length ++ (idsB l ++ rest)) 0 ∧ Byts (be4 l.length ++ (idsB l ++ rest)) ∧ g < w.heap.size ∧ ∀ k, v.ownBlock = some k → k < w.heap.size) := ⟨h, hb, lt_of_block h.1, h.2.lt (by simp [be4])⟩
  have HSZ := rSize_ok g v _ most w h hb (by omega) (by rw [ha]; omega) (by rw [ha]; exact hm) (by rw [ha, hlen]; omega)
  rw [ha] at HSZ
  have HSK := rSkip_ok g v _ 4 0 w h (by omega)
  have hsk : ReadsTo w g v ⟨0, idsB l ++ rest, 0⟩ (w.setCell ⟨g, 1, none⟩ (cutFrom v 4)) := by
    have := ReadsTo.skip (x := 0) (n := 4) h (by omega)
    rw [bk_drop (n := 4) rfl] at this
    exact this
  have HK : Hid _ := hsk
  have HGD : Hid _ := hgd
  obtain ⟨i0, hi, hz0, hz1, hz2⟩ := info_parts Tryd.infoId
  clear h hb hgd hsk ha hlen
  go_enter Tryd.func61, Tryd.ntmps61
  go_wp2_with fail
  refine HSZ.mono ?_
  clear HSZ
  rintro e w1 ⟨rfl, rfl⟩
  go_wp2_with fail
  refine HSK.mono ?_
  clear HSK
  rintro e w2 ⟨rfl, rfl⟩
  go_wp2_with fail
  go_loopw [9, 10] (fun lv i wr => ∃ k : Nat, k ≤ l.length ∧ i = .int .i64 k ∧ Hid (wr.ownsRow w1.heap.size 81 2 lv k ((l.take k).map IdD.cells).flatten ∧ ReadsTo w1 g v ⟨0, idsB (l.drop k) ++ rest, 0⟩ wr)) (fun _ i _ => l.length - (intOf i).toNat)
  case atStart => exact ⟨0, Nat.zero_le _, rfl, World.ownsRow_nil _ _ _ _, HK.out⟩
  case round =>
    clear HK
    obtain ⟨k, hk, rfl, HR⟩ := hrel
    obtain ⟨vk, a1, a2, a3⟩ := HR.out.2
    have HA : Hid (IsR wr g vk (idsB (l.drop k) ++ rest) 0 ∧ (∀ k, vk.ownBlock = some k → v.ownBlock = some k) ∧ Kept w1 wr (· = g) ∧ wr.ownsRow w1.heap.size 81 2 u9 k ((l.take k).map IdD.cells).flatten) := ⟨a1, a2, a3, HR.out.1⟩
    clear a1 a2 a3
    by_cases hlt : k < l.length
    · have HBT : Hid (Byts (idsB (l.drop k) ++ rest)) := fun x hx => H.out.2.1 x (by
        rcases List.mem_append.1 hx with hx | hx
        · refine List.mem_append.2 (.inr (List.mem_append.2 (.inl ?_)))
          unfold idsB at hx ⊢
          obtain ⟨y, hy, hxy⟩ := List.mem_flatMap.1 hx
          exact List.mem_flatMap.2 ⟨y, List.mem_of_mem_drop hy, hxy⟩
        · exact List.mem_append.2 (.inr (List.mem_append.2 (.inr hx))))
      have hat := idsB_at l k hlt rest
      have HRD := rReads_any g vk _ 0 wr HA.out.1
      have HON := getOneId_bk l0 l1 g vk l[k] (idsB (l.drop (k + 1)) ++ rest) wr (by rw [← hat]; exact HA.out.1) (by rw [← hat]; exact HBT.out) (HGD.out _ (List.getElem_mem hlt)).1 (HGD.out _ (List.getElem_mem hlt)).2
      have HN : Hid (((l.take (k + 1)).map IdD.cells).flatten = ((l.take k).map IdD.cells).flatten ++ l[k].cells) := by
        show _ = _
        rw [List.take_succ_eq_append_getElem hlt, List.map_append, List.flatten_append]
        simp
      have hsz := HA.out.2.2.1.size
      clear HR HBT hat
      generalize l[k] = x at *
      go_wp2_with fail
      refine HRD.mono ?_
      clear HRD
      rintro e w3 ⟨rfl, rfl⟩
      go_wp2_with fail
      refine HON.mono ?_
      clear HON
      rintro e w4 ⟨rfl, hr4⟩
      have HB4 : Hid (ReadsTo w1 g v ⟨0, idsB (l.drop (k + 1)) ++ rest, 0⟩ w4 ∧ w4.ownsRow w1.heap.size 81 2 u9 k ((l.take k).map IdD.cells).flatten) := by
        refine ⟨ReadsTo.next HA.out.2.2.1 HA.out.2.1 hr4, ?_⟩
        obtain ⟨_, _, _, b3⟩ := hr4
        exact ownsRow_kept HA.out.2.2.2 b3 (fun j e e' => by have h1 := (HA.out.2.2.2.lt j e).1; have h2 := H.out.2.2.1; omega)
      have hsz4 : w1.heap.size ≤ w4.heap.size := by obtain ⟨_, _, _, b3⟩ := HB4.out.1; exact b3.size
      clear hr4 HA
      generalize ((l.take k).map IdD.cells).flatten = ys at *
      go_wp2_with (at_builtin; refine wpList_append_own_at _ rfl _ _ 30 rfl w1.heap.size 81 i0 _ 2 32 Tryd.underlying30 hi hz0 hz1 hz2 rfl (by decide) _ _ _ rfl (ownsRow_kept HB4.out.2 ((Kept.refl w4 (fun _ => False)).alloc _) (fun _ _ h => h)) ⟨w4.heap.size, 0, none⟩ 1 1 x.cells rfl (by simp [IdD.cells]) ?c1 ?c2 ?c3 ?c4 ?c5 ?_)
      case c1 =>
        intro j u hj
        rw [addrAdd, Nat.zero_add, cell_of_row _ _ _ _ _ _ (heap_alloc_new _ _)]
        rw [← hj]
        simp [IdD.cells]
      case c2 =>
        intro u hu
        simp only [IdD.cells, List.mem_cons, List.not_mem_nil, or_false] at hu
        rcases hu with rfl | rfl <;> rfl
      case c3 => unfold maxLen; omega
      case c4 => omega
      case c5 => simp; omega
      intro v' w5 hown' hgrow _ _
      have HR5 : Hid (w5.ownsRow w1.heap.size 81 2 v' (k + 1) (ys ++ x.cells) ∧ ReadsTo w1 g v ⟨0, idsB (l.drop (k + 1)) ++ rest, 0⟩ w5) := by
        refine ⟨hown', ?_⟩
        obtain ⟨v5, b1, b2, b3⟩ := HB4.out.1
        have hka := (Kept.refl w4 (fun _ => False)).alloc (.cells x.cells.toArray 81)
        have hkg : Kept (w4.alloc (.cells x.cells.toArray 81)) w5 (fun j => u9.ownBlock = some j) := ⟨hgrow.os, hgrow.tape, hgrow.output, hgrow.size, fun j hj hn => hgrow.block j hj (fun e => hn e.symm)⟩
        have hkk := (hka.mono (S' := fun j => u9.ownBlock = some j) (fun _ _ h => h.elim)).trans hkg (fun _ _ h => h)
        have hlo : ∀ j, u9.ownBlock = some j → w1.heap.size ≤ j := fun j e => (HB4.out.2.lt j e).1
        exact ⟨v5, b1.kept hkk (fun e => by have := hlo g e; have := H.out.2.2.1; omega) (fun j e e' => by have h1 := hlo j e'; have h2 := H.out.2.2.2 j (b2 j e); omega), b2, b3.trans hkk (fun j hj e => by have := hlo j e; omega)⟩
      clear hown' hgrow HB4
      go_wp2_with fail
      go_roundw
      case rel => exact ⟨k + 1, by omega, by go_num, by rw [HN.out]; exact HR5.out.1, HR5.out.2⟩
      case measure => simp [intOf]; omega
    · obtain rfl : k = l.length := by omega
      have HRD := rReads_any g vk _ 0 wr HA.out.1
      have HF : Hid (wr.ownsRow w1.heap.size 81 2 u9 (l.map IdD.cells).length (l.map IdD.cells).flatten ∧ ReadsTo w1 g v ⟨0, rest, 0⟩ wr) := by
        have h1 := HR.out
        rw [List.take_length, List.drop_length] at h1
        rw [List.length_map]
        exact ⟨h1.1, by simpa [idsB] using h1.2⟩
      clear HR HA
      go_wp2_with fail
      refine HRD.mono ?_
      clear HRD
      rintro e w3 ⟨rfl, rfl⟩
      go_wp2_with fail
      go_ret
      exact ⟨_, rfl, HF.out⟩

theorem acB_least (l : List EnD) : l.length ≤ (acB l).length := by
  induction l with
  | nil => simp
  | cons x l ih =>
    have e : acB (x :: l) = enB x ++ acB l := by simp [acB]
    have h1 : 1 ≤ (enB x).length := by simp [enB]
    rw [e, List.length_append, List.length_cons]
    omega

theorem acB_at (l : List EnD) (k : Nat) (h : k < l.length) (rest : List Int) : acB (l.drop k) ++ rest = enB l[k] ++ (acB (l.drop (k + 1)) ++ rest) := by
  unfold acB
  rw [List.drop_eq_getElem_cons h, List.flatMap_cons, List.append_assoc]

set_option maxHeartbeats 2000000 in
theorem getListEntry_bk (l0 l1 : Int) (g : Nat) (v : Value) (l : List EnD) (rest : List Int) (most : Int) (w : World) (h : IsR w g v ((be4 l.length ++ acB l) ++ rest) 0) (hb : Byts ((be4 l.length ++ acB l) ++ rest)) (hm : (l.length : Int) ≤ most) (hl : l.length ≤ 1000) (hgd : ∀ x ∈ l, (-128 ≤ x.perms ∧ x.perms ≤ 127) ∧ x.id.scheme.size ≤ 24 ∧ x.id.name.size ≤ 24) :
    Calls Tryd.prog 57 #[.pointer (some ⟨g, 0, none⟩), .int .i64 most, .func (.func 58) #[lay l0 l1] #[]] w fun e w' => ∃ u, e = .returned u ∧ w'.ownsRow w.heap.size 83 3 u (l.map EnD.cells).length (l.map EnD.cells).flatten ∧ ReadsTo w g v ⟨0, rest, 0⟩ w' := by
  rw [List.append_assoc] at h hb
  have ha : ahead (be4 l.length ++ (acB l ++ rest)) = l.length := bk_ahead (by omega)
  have hle := acB_least l
  have hlen : (be4 (l.length : Int) ++ (acB l ++ rest)).length = 4 + ((acB l).length + rest.length) := by rw [List.length_append, List.length_append]; rfl
  have H : Hid (IsR w g v (be4 l.length ++ (acB l ++ rest)) 0 ∧ Byts (be4 l.length ++ (acB l ++ rest)) ∧ g < w.heap.size ∧ ∀ k, v.ownBlock = some k → k < w.heap.size) := ⟨h, hb, lt_of_block h.1, h.2.lt (by simp [be4])⟩
  have HSZ := rSize_ok g v _ most w h hb (by omega) (by rw [ha]; omega) (by rw [ha]; exact hm) (by rw [ha, hlen]; omega)
  rw [ha] at HSZ
  have HSK := rSkip_ok g v _ 4 0 w h (by omega)
  have hsk : ReadsTo w g v ⟨0, acB l ++ rest, 0⟩ (w.setCell ⟨g, 1, none⟩ (cutFrom v 4)) := by
    have := ReadsTo.skip (x := 0) (n := 4) h (by omega)
    rw [bk_drop (n := 4) rfl] at this
    exact this
  have HK : Hid _ := hsk
  have HGD : Hid _ := hgd
  obtain ⟨i0, hi, hz0, hz1, hz2⟩ := info_parts Tryd.infoEn
  clear h hb hgd hsk ha hlen
  go_enter Tryd.func57, Tryd.ntmps57
  go_wp2_with fail
  refine HSZ.mono ?_
  clear HSZ
  rintro e w1 ⟨rfl, rfl⟩
  go_wp2_with fail
  refine HSK.mono ?_
  clear HSK
  rintro e w2 ⟨rfl, rfl⟩
  go_wp2_with fail
  go_loopw [9, 10] (fun lv i wr => ∃ k : Nat, k ≤ l.length ∧ i = .int .i64 k ∧ Hid (wr.ownsRow w1.heap.size 83 3 lv k ((l.take k).map EnD.cells).flatten ∧ ReadsTo w1 g v ⟨0, acB (l.drop k) ++ rest, 0⟩ wr)) (fun _ i _ => l.length - (intOf i).toNat)
  case atStart => exact ⟨0, Nat.zero_le _, rfl, World.ownsRow_nil _ _ _ _, HK.out⟩
  case round =>
    clear HK
    obtain ⟨k, hk, rfl, HR⟩ := hrel
    obtain ⟨vk, a1, a2, a3⟩ := HR.out.2
    have HA : Hid (IsR wr g vk (acB (l.drop k) ++ rest) 0 ∧ (∀ k, vk.ownBlock = some k → v.ownBlock = some k) ∧ Kept w1 wr (· = g) ∧ wr.ownsRow w1.heap.size 83 3 u9 k ((l.take k).map EnD.cells).flatten) := ⟨a1, a2, a3, HR.out.1⟩
    clear a1 a2 a3
    by_cases hlt : k < l.length
    · have HBT : Hid (Byts (acB (l.drop k) ++ rest)) := fun x hx => H.out.2.1 x (by
        rcases List.mem_append.1 hx with hx | hx
        · refine List.mem_append.2 (.inr (List.mem_append.2 (.inl ?_)))
          unfold acB at hx ⊢
          obtain ⟨y, hy, hxy⟩ := List.mem_flatMap.1 hx
          exact List.mem_flatMap.2 ⟨y, List.mem_of_mem_drop hy, hxy⟩
        · exact List.mem_append.2 (.inr (List.mem_append.2 (.inr hx))))
      have hat := acB_at l k hlt rest
      have HRD := rReads_any g vk _ 0 wr HA.out.1
      have HON := getOneEntry_bk l0 l1 g vk l[k] (acB (l.drop (k + 1)) ++ rest) wr (by rw [← hat]; exact HA.out.1) (by rw [← hat]; exact HBT.out) (HGD.out _ (List.getElem_mem hlt)).1.1 (HGD.out _ (List.getElem_mem hlt)).1.2 (HGD.out _ (List.getElem_mem hlt)).2.1 (HGD.out _ (List.getElem_mem hlt)).2.2
      have HN : Hid (((l.take (k + 1)).map EnD.cells).flatten = ((l.take k).map EnD.cells).flatten ++ l[k].cells) := by
        show _ = _
        rw [List.take_succ_eq_append_getElem hlt, List.map_append, List.flatten_append]
        simp
      have hsz := HA.out.2.2.1.size
      clear HR HBT hat
      generalize l[k] = x at *
      go_wp2_with fail
      refine HRD.mono ?_
      clear HRD
      rintro e w3 ⟨rfl, rfl⟩
      go_wp2_with fail
      refine HON.mono ?_
      clear HON
      rintro e w4 ⟨rfl, hr4⟩
      have HB4 : Hid (ReadsTo w1 g v ⟨0, acB (l.drop (k + 1)) ++ rest, 0⟩ w4 ∧ w4.ownsRow w1.heap.size 83 3 u9 k ((l.take k).map EnD.cells).flatten) := by
        refine ⟨ReadsTo.next HA.out.2.2.1 HA.out.2.1 hr4, ?_⟩
        obtain ⟨_, _, _, b3⟩ := hr4
        exact ownsRow_kept HA.out.2.2.2 b3 (fun j e e' => by have h1 := (HA.out.2.2.2.lt j e).1; have h2 := H.out.2.2.1; omega)
      have hsz4 : w1.heap.size ≤ w4.heap.size := by obtain ⟨_, _, _, b3⟩ := HB4.out.1; exact b3.size
      clear hr4 HA
      generalize ((l.take k).map EnD.cells).flatten = ys at *
      go_wp2_with (at_builtin; refine wpList_append_own_at _ rfl _ _ 29 rfl w1.heap.size 83 i0 _ 3 40 Tryd.underlying29 hi hz0 hz1 hz2 rfl (by decide) _ _ _ rfl (ownsRow_kept HB4.out.2 ((Kept.refl w4 (fun _ => False)).alloc _) (fun _ _ h => h)) ⟨w4.heap.size, 0, none⟩ 1 1 x.cells rfl (by simp [EnD.cells]) ?c1 ?c2 ?c3 ?c4 ?c5 ?_)
      case c1 =>
        intro j u hj
        rw [addrAdd, Nat.zero_add, cell_of_row _ _ _ _ _ _ (heap_alloc_new _ _)]
        rw [← hj]
        simp [EnD.cells]
      case c2 =>
        intro u hu
        simp only [EnD.cells, List.mem_cons, List.not_mem_nil, or_false] at hu
        rcases hu with rfl | rfl | rfl <;> rfl
      case c3 => unfold maxLen; omega
      case c4 => omega
      case c5 => simp; omega
      intro v' w5 hown' hgrow _ _
      have HR5 : Hid (w5.ownsRow w1.heap.size 83 3 v' (k + 1) (ys ++ x.cells) ∧ ReadsTo w1 g v ⟨0, acB (l.drop (k + 1)) ++ rest, 0⟩ w5) := by
        refine ⟨hown', ?_⟩
        obtain ⟨v5, b1, b2, b3⟩ := HB4.out.1
        have hka := (Kept.refl w4 (fun _ => False)).alloc (.cells x.cells.toArray 83)
        have hkg : Kept (w4.alloc (.cells x.cells.toArray 83)) w5 (fun j => u9.ownBlock = some j) := ⟨hgrow.os, hgrow.tape, hgrow.output, hgrow.size, fun j hj hn => hgrow.block j hj (fun e => hn e.symm)⟩
        have hkk := (hka.mono (S' := fun j => u9.ownBlock = some j) (fun _ _ h => h.elim)).trans hkg (fun _ _ h => h)
        have hlo : ∀ j, u9.ownBlock = some j → w1.heap.size ≤ j := fun j e => (HB4.out.2.lt j e).1
        exact ⟨v5, b1.kept hkk (fun e => by have := hlo g e; have := H.out.2.2.1; omega) (fun j e e' => by have h1 := hlo j e'; have h2 := H.out.2.2.2 j (b2 j e); omega), b2, b3.trans hkk (fun j hj e => by have := hlo j e; omega)⟩
      clear hown' hgrow HB4
      go_wp2_with fail
      go_roundw
      case rel => exact ⟨k + 1, by omega, by go_num, by rw [HN.out]; exact HR5.out.1, HR5.out.2⟩
      case measure => simp [intOf]; omega
    · obtain rfl : k = l.length := by omega
      have HRD := rReads_any g vk _ 0 wr HA.out.1
      have HF : Hid (wr.ownsRow w1.heap.size 83 3 u9 (l.map EnD.cells).length (l.map EnD.cells).flatten ∧ ReadsTo w1 g v ⟨0, rest, 0⟩ wr) := by
        have h1 := HR.out
        rw [List.take_length, List.drop_length] at h1
        rw [List.length_map]
        exact ⟨h1.1, by simpa [acB] using h1.2⟩
      clear HR HA
      go_wp2_with fail
      refine HRD.mono ?_
      clear HRD
      rintro e w3 ⟨rfl, rfl⟩
      go_wp2_with fail
      go_ret
      exact ⟨_, rfl, HF.out⟩
end Go.Proofs.YtgaepncccfipeaaDoor
