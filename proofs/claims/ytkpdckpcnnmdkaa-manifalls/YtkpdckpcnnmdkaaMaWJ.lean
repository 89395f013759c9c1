/- manifest: the writes of a Put where a file of the name New is there. -/
import Derived.Test.YtkpdckpcnnmdkaaMaVJ
namespace Go.Proofs.Ytkpdckpcnnmdkaa
open Go.RowKit Go.Shelf
set_option maxRecDepth 8000

set_option maxHeartbeats 1000000 in
theorem index_yes {w : World} {B g c : Nat} {fs : List FiD} {n : ByteArray} (h : w.ownsRow B 9 1 (.slice (some ⟨g, 0, none⟩) fs.length c) fs.length (nmC fs)) (hno : ∃ f ∈ fs, f.name = n) (hfew : fs.length ≤ 64) (_hc : fs.length ≤ c ∧ c ≤ 9223372036854775807) :
    Calls Try.prog 75 #[.slice (some ⟨g, 0, none⟩) fs.length c, .string n] w fun e w' => ∃ j : Nat, e = .returned (.int .i64 j) ∧ j ≤ 64 ∧ w' = w := by
  have H : Hid (∀ k (hk : k < fs.length), w.cell? ⟨g, k, none⟩ = some (.string fs[k].name)) := fun k hk => by
    have := h.cellAt k (by simpa using hk)
    rw [this]
    simp [hk]
  have HN : Hid _ := hno
  clear h hno
  obtain ⟨N, hN⟩ : ∃ N, N = fs.length := ⟨_, rfl⟩
  rw [← hN] at hfew _hc ⊢
  have HNN : Hid _ := hN
  clear hN
  go_enter Try.func75, Try.ntmps75
  go_wp2_with fail
  go_loopw [5, 8] (fun _ vi wr => ∃ k : Nat, k ≤ N ∧ vi = .int .i64 k ∧ wr = w ∧ Hid (∀ j (hj : j < fs.length), j < k → fs[j].name ≠ n)) (fun _ vi _ => N - (intOf vi).toNat)
  case atStart => exact ⟨0, Nat.zero_le _, rfl, rfl, fun j _ hj => by omega⟩
  case round =>
    obtain ⟨k, hk, rfl, rfl, HJ⟩ := hrel
    by_cases hlt : k < N
    · have hlt1 : k < fs.length := by rw [← HNN.out]; exact hlt
      have hck := H.out k hlt1
      have hlb := World.block_lt_of_cell? _ _ hck
      by_cases hne : fs[k].name = n
      · rw [hne] at hck
        have hb : (n.toList == n.toList) = true := by simp
        go_wp2_with fail
        go_ret
        exact ⟨k, rfl, by omega, rfl⟩
      · have hb : (n.toList == fs[k].name.toList) = false := by
          rw [beq_eq_false_iff_ne]
          exact fun e => hne (toList_injM e).symm
        have hb2 : ¬ n.toList = fs[k].name.toList := fun e => hne (toList_injM e).symm
        have HJ2 : Hid (∀ j (hj : j < fs.length), j < k + 1 → fs[j].name ≠ n) := fun j hj hjk e => by
          rcases Nat.lt_or_ge j k with h9 | h9
          · exact HJ.out j hj h9 e
          · obtain rfl : j = k := by omega
            exact hne e
        clear hne HJ
        generalize fs[k].name = nm at *
        go_wp2_with fail
        go_roundw
        case rel => exact ⟨k + 1, by omega, by go_num, by trivial, HJ2⟩
        case measure => simp [intOf]; omega
    · exfalso
      obtain ⟨f, hf, hfn⟩ := HN.out
      obtain ⟨j, hj, e⟩ := List.mem_iff_getElem.1 hf
      exact HJ.out j hj (by have := HNN.out; omega) (by rw [e]; exact hfn)

set_option maxHeartbeats 400000 in
theorem contains_yes {w : World} {B g c : Nat} {fs : List FiD} {n : ByteArray} (h : w.ownsRow B 9 1 (.slice (some ⟨g, 0, none⟩) fs.length c) fs.length (nmC fs)) (hno : ∃ f ∈ fs, f.name = n) (hfew : fs.length ≤ 64) (hc : fs.length ≤ c ∧ c ≤ 9223372036854775807) :
    Calls Try.prog 43 #[.slice (some ⟨g, 0, none⟩) fs.length c, .string n] w fun e w' => e = .returned (.bool true) ∧ w' = w := by
  have HI : Hid _ := index_yes h hno hfew hc
  clear h hno
  go_enter Try.func43, Try.ntmps43
  go_wp2_with fail
  refine Calls.mono HI.out ?_
  rintro e w1 ⟨j, rfl, hj, hw1⟩
  subst w1
  have hj0 : (0 : Int) ≤ (j : Int) := by omega
  go_wp2_with fail
  go_ret
  exact ⟨rfl, rfl⟩

abbrev wfn4 (B : Nat) : Value := .func (.func 44) #[] #[.pointer (some ⟨B, 0, none⟩)]

set_option maxHeartbeats 400000 in
theorem wr4_any {w : World} {p : Nat} {fv : Value} {ms : List FiM} {D : DkD} (h : IsDk w p fv ms D) (ok : DkOk D) (hw : D.writes ≤ 4611686018427387904) (B : Nat) (c0 : w.cell? ⟨B, 0, none⟩ = some (.pointer (some ⟨p, 0, none⟩))) :
    Calls Try.prog 44 #[.pointer (some ⟨B, 0, none⟩)] w (ActTo w p fv ms (D.act (D.errO newN) (D.files.eraseIdx (dropI D.files newN)))) := by
  have HA : Hid _ := remove_any h ok hw newN
  have hl0 := World.block_lt_of_cell? w _ c0
  clear h ok
  go_enter Try.func44, Try.ntmps44
  go_wp2_with fail
  refine Calls.mono HA.out ?_
  rintro e w1 ⟨rfl, ht⟩
  have HT : Hid _ := ht
  clear ht
  go_wp2_with fail
  go_ret
  exact ⟨rfl, HT.out⟩

set_option maxHeartbeats 1000000 in
theorem writes_yes {w : World} {p : Nat} {fv : Value} {ms : List FiM} {D : DkD} (h : IsDk w p fv ms D) (ok : DkOk D) (hno : hasF D.files newN = true) (x : Option Addr) (l y : Nat) :
    Calls Try.prog 23 #[.pointer (some ⟨p, 0, none⟩), .slice x l y] w fun e w' => ∃ (g4 c4 : Nat) (cur4 : Array Value), e = .returned (.slice (some ⟨g4, 0, none⟩) 4 c4) ∧ (4 ≤ c4 ∧ c4 ≤ 9223372036854775807) ∧ Hid (w.heap.size ≤ g4 ∧ Below w.heap.size w w' ∧ w'.heap[w.heap.size]? = some (.cells #[.pointer (some ⟨p, 0, none⟩)] 29 (0, 0)) ∧ w'.heap[w.heap.size + 1]? = some (.cells #[.slice x l y] 45 (0, 0)) ∧ w'.heap[g4]? = some (.cells cur4 61 (0, 0)) ∧ cur4[0]? = some (wfn4 w.heap.size) ∧ cur4[1]? = some (wfn1 w.heap.size) ∧ cur4[2]? = some (wfn2 w.heap.size) ∧ cur4[3]? = some (wfn3 w.heap.size)) := by
  obtain ⟨W, eW⟩ : ∃ W, W = ((w.alloc (.cells #[.pointer (some ⟨p, 0, none⟩)] 29)).alloc (.cells #[.slice x l y] 45)).alloc (.cells #[wfn1 w.heap.size, wfn2 w.heap.size, wfn3 w.heap.size] 61) := ⟨_, rfl⟩
  have hs1 : (w.alloc (.cells #[.pointer (some ⟨p, 0, none⟩)] 29)).heap.size = w.heap.size + 1 := World.size_alloc ..
  have hs2 : ((w.alloc (.cells #[.pointer (some ⟨p, 0, none⟩)] 29)).alloc (.cells #[.slice x l y] 45)).heap.size = w.heap.size + 2 := by rw [World.size_alloc, hs1]
  have hs3 : W.heap.size = w.heap.size + 3 := by rw [eW, World.size_alloc, hs2]
  have hb3 : Below w.heap.size w W := by rw [eW]; exact Below.step (one_allocK _ _) (Below.step (one_allocK _ _) (one_allocK _ _))
  have r0 : W.heap[w.heap.size]? = some (.cells #[.pointer (some ⟨p, 0, none⟩)] 29 (0, 0)) := by
    rw [eW]
    exact (Below.kept (one_allocK _ _)).heap ((Below.kept (one_allocK _ _)).heap (heap_alloc_new w _) (fun e => by omega)) (fun e => by omega)
  have r1 : W.heap[w.heap.size + 1]? = some (.cells #[.slice x l y] 45 (0, 0)) := by
    rw [eW]
    have h1 := heap_alloc_new (w.alloc (.cells #[.pointer (some ⟨p, 0, none⟩)] 29)) (.cells #[.slice x l y] 45)
    rw [hs1] at h1
    exact (Below.kept (one_allocK _ _)).heap h1 (fun e => by omega)
  have r2 : W.heap[w.heap.size + 2]? = some (.cells #[wfn1 w.heap.size, wfn2 w.heap.size, wfn3 w.heap.size] 61 (0, 0)) := by
    rw [eW]
    have h1 := heap_alloc_new ((w.alloc (.cells #[.pointer (some ⟨p, 0, none⟩)] 29)).alloc (.cells #[.slice x l y] 45)) (.cells #[wfn1 w.heap.size, wfn2 w.heap.size, wfn3 w.heap.size] 61)
    rw [hs2] at h1
    exact h1
  have HN : Hid _ := dNames_any (h.later hb3) ok
  have HX : Hid (Below w.heap.size w W ∧ W.heap[w.heap.size]? = some (.cells #[.pointer (some ⟨p, 0, none⟩)] 29 (0, 0)) ∧ W.heap[w.heap.size + 1]? = some (.cells #[.slice x l y] 45 (0, 0)) ∧ W.heap[w.heap.size + 2]? = some (.cells #[wfn1 w.heap.size, wfn2 w.heap.size, wfn3 w.heap.size] 61 (0, 0)) ∧ DkOk D ∧ ∃ f ∈ D.files, f.name = newN) := ⟨hb3, r0, r1, r2, ok, (hasF_mem ok.rise newN).1 hno⟩
  have c0 : W.cell? ⟨w.heap.size, 0, none⟩ = some (.pointer (some ⟨p, 0, none⟩)) := cell_of_row W _ 0 _ _ _ r0
  have HE : Hid _ := eW
  have hlW := lt_of_block r0
  have HS3 : Hid _ := hs3
  clear h ok hno eW hb3 r0 r1 r2 hs1 hs2 hs3
  go_enter Try.func23, Try.ntmps23
  go_upto_region 2 with fail
  rw [← HE.out]
  go_wp2_with fail
  refine Calls.mono HN.out ?_
  rintro e w1 ⟨rfl, hn1, hb1⟩
  have HC : Hid _ := contains_yes hn1 HX.out.2.2.2.2.2 HX.out.2.2.2.2.1.few ⟨Nat.le_refl _, by have := HX.out.2.2.2.2.1.few; omega⟩
  have HB1 : Hid _ := hb1
  clear hn1 hb1 HN
  go_wp2_with fail
  refine Calls.mono HC.out ?_
  rintro e w2 ⟨rfl, hw2⟩
  subst w2
  obtain ⟨W5, eW5⟩ : ∃ W5, W5 = w1.alloc (.cells #[wfn4 w.heap.size] 61) := ⟨_, rfl⟩
  have hb5 : Below W.heap.size W W5 := Below.step HB1.out (by rw [eW5]; exact one_allocK _ _)
  have r5 : W5.heap[w1.heap.size]? = some (.cells #[wfn4 w.heap.size] 61 (0, 0)) := by rw [eW5]; exact heap_alloc_new w1 _
  have hs3 := HS3.out
  have q0 := (Below.kept hb5).heap HX.out.2.1 (fun e => by omega)
  have q1 := (Below.kept hb5).heap HX.out.2.2.1 (fun e => by omega)
  have q2 := (Below.kept hb5).heap HX.out.2.2.2.1 (fun e => by omega)
  have HIN : Hid _ := insert_fn (i := 0) (n := 3) (cap := 3) q2 rfl (Nat.le_refl _) (by omega) (fun u hu => by
    simp at hu
    rcases hu with rfl | rfl | rfl <;> rfl) (wfn4 w.heap.size) rfl w1.heap.size r5 (by omega) (by omega)
  have HQ : Hid (Below w.heap.size w W5 ∧ W5.heap[w.heap.size]? = some (.cells #[.pointer (some ⟨p, 0, none⟩)] 29 (0, 0)) ∧ W5.heap[w.heap.size + 1]? = some (.cells #[.slice x l y] 45 (0, 0))) := ⟨Below.step HX.out.1 hb5, q0, q1⟩
  have HE5 : Hid _ := eW5
  clear hb5 r5 hs3 q0 q1 q2 eW5
  go_wp2_with fail
  rw [← HE5.out]
  refine Calls.mono HIN.out ?_
  rintro e w6 ⟨v', rfl, hf⟩
  have HF : Hid _ := hf
  obtain ⟨g4, c4, cur4, rfl, hrow4, h4, h5, htk⟩ : ∃ (g4 c4 : Nat) (cur4 : Array Value), v' = .slice (some ⟨g4, 0, none⟩) 4 c4 ∧ w6.heap[g4]? = some (.cells cur4 61 (0, 0)) ∧ 4 ≤ c4 ∧ c4 ≤ maxLen ∧ cur4.toList.take 4 = [wfn4 w.heap.size, wfn1 w.heap.size, wfn2 w.heap.size, wfn3 w.heap.size] := by
    obtain ⟨_, ⟨_, h0⟩ | ⟨g4, c4, cur4, rfl, _, hrow4, h4, h5, hsz, htk⟩⟩ := hf.own
    · omega
    · exact ⟨g4, c4, cur4, rfl, hrow4, h4, h5, htk⟩
  have HZ : Hid (w6.heap[g4]? = some (.cells cur4 61 (0, 0)) ∧ cur4.toList.take 4 = [wfn4 w.heap.size, wfn1 w.heap.size, wfn2 w.heap.size, wfn3 w.heap.size]) := ⟨hrow4, htk⟩
  unfold maxLen at h5
  clear hf hrow4 htk HIN HE5
  go_wp2_with fail
  go_ret
  have hs3 := HS3.out
  have hcc : ∀ j, j < 4 → cur4[j]? = (cur4.toList.take 4)[j]? := fun j hj => by rw [List.getElem?_take, if_pos hj, Array.getElem?_toList]
  have hg4 : w.heap.size ≤ g4 := by
    rcases HF.out.blk g4 rfl with e | e
    · have e2 : w.heap.size + 2 = g4 := Option.some.inj e
      omega
    · have := HQ.out.1.size; omega
  refine ⟨g4, c4, cur4, rfl, ⟨h4, by omega⟩, hg4, ?_, HF.out.kept.heap HQ.out.2.1 (fun e => by have e2 : w.heap.size + 2 = w.heap.size := Option.some.inj e; omega), HF.out.kept.heap HQ.out.2.2 (fun e => by have e2 : w.heap.size + 2 = w.heap.size + 1 := Option.some.inj e; omega), HZ.out.1, ?_, ?_, ?_, ?_⟩
  · exact HQ.out.1.trans (HF.out.kept.below HQ.out.1.size (fun k e => by have e2 : w.heap.size + 2 = k := Option.some.inj e; omega))
  all_goals (rw [hcc _ (by omega), HZ.out.2]; rfl)

end Go.Proofs.Ytkpdckpcnnmdkaa
