/- manifest: isNone, the names looked through, the writes of a Put. -/
import Derived.Test.YtjdigknhiopdeaaGreatMaGJ
import Derived.Test.YtjdigknhiopdeaaGreatDkNJ
import Derived.Test.YtjdigknhiopdeaaGreatDkTJ
namespace Go.Proofs.YtjdigknhiopdeaaGreat
open Go.RowKit Go.Shelf
set_option maxRecDepth 8000

theorem errO_nil (D : DkD) : D.errO ⟨#[]⟩ = if D.on then 22 else 23 := by
  unfold DkD.errO
  have : isNm ⟨#[]⟩ = false := by decide
  rw [this]
  rfl

set_option maxHeartbeats 400000 in
theorem isNone_dk {w : World} {p : Nat} {fv : Value} {ms : List FiM} {D : DkD} (h : IsDk w p fv ms D) (ok : DkOk D) : Calls Tryz.prog 30 #[.pointer (some ⟨p, 0, none⟩)] w fun e w' => e = .returned (.bool false) ∧ Below w.heap.size w w' := by
  have HR : Hid _ := read_any h ok ⟨#[]⟩
  rw [errO_nil] at HR
  obtain ⟨E, hE, hE1⟩ : ∃ E : Int, E = (if D.on then 22 else 23) ∧ E ≠ 1 := ⟨_, rfl, by cases D.on <;> decide⟩
  rw [← hE] at HR
  have hb : (E == 1) = false := by simpa using hE1
  clear h ok hE hE1
  go_enter Tryz.func30, Tryz.ntmps30
  go_wp2_with fail
  refine Calls.mono HR.out ?_
  rintro e w1 ⟨⟨v, rfl, _⟩, hb1⟩
  have HB : Hid _ := hb1
  clear hb1
  go_wp2_with fail
  go_ret
  exact ⟨rfl, HB.out⟩

theorem toList_injM {a b : ByteArray} (h : a.toList = b.toList) : a = b := by
  rw [ByteArray.toList_eq, ByteArray.toList_eq] at h
  exact ByteArray.ext (Array.toList_inj.1 h)

set_option maxHeartbeats 1000000 in
theorem index_no {w : World} {B g c : Nat} {fs : List FiD} {n : ByteArray} (h : w.ownsRow B 9 1 (.slice (some ⟨g, 0, none⟩) fs.length c) fs.length (nmC fs)) (hno : ∀ f ∈ fs, f.name ≠ n) (hfew : fs.length ≤ 64) (hc : fs.length ≤ c ∧ c ≤ 9223372036854775807) :
    Calls Tryz.prog 86 #[.slice (some ⟨g, 0, none⟩) fs.length c, .string n] w fun e w' => e = .returned (.int .i64 (-1)) ∧ w' = w := by
  have H : Hid (∀ k (hk : k < fs.length), w.cell? ⟨g, k, none⟩ = some (.string fs[k].name)) := fun k hk => by
    have := h.cellAt k (by simpa using hk)
    rw [this]
    simp [hk]
  have HN : Hid _ := hno
  clear h hno
  obtain ⟨N, hN⟩ : ∃ N, N = fs.length := ⟨_, rfl⟩
  rw [← hN] at hfew hc ⊢
  have HNN : Hid _ := hN
  clear hN
  go_enter Tryz.func86, Tryz.ntmps86
  go_wp2_with fail
  go_loopw [5, 8] (fun _ vi wr => ∃ k : Nat, k ≤ N ∧ vi = .int .i64 k ∧ wr = w) (fun _ vi _ => N - (intOf vi).toNat)
  case atStart => exact ⟨0, Nat.zero_le _, rfl, rfl⟩
  case round =>
    obtain ⟨k, hk, rfl, rfl⟩ := hrel
    by_cases hlt : k < N
    · have hlt1 : k < fs.length := by rw [← HNN.out]; exact hlt
      have hck := H.out k hlt1
      have hne := HN.out _ (List.getElem_mem hlt1)
      have hb : (n.toList == fs[k].name.toList) = false := by
        rw [beq_eq_false_iff_ne]
        exact fun e => hne (toList_injM e).symm
      have hb2 : ¬ n.toList = fs[k].name.toList := fun e => hne (toList_injM e).symm
      have hlb := World.block_lt_of_cell? _ _ hck
      clear hne
      generalize fs[k].name = nm at *
      go_wp2_with fail
      go_roundw
      case rel => exact ⟨k + 1, by omega, by go_num, by trivial⟩
      case measure => simp [intOf]; omega
    · obtain rfl : k = N := by omega
      go_wp2_with fail
      go_ret
      exact ⟨rfl, rfl⟩

set_option maxHeartbeats 400000 in
theorem contains_no {w : World} {B g c : Nat} {fs : List FiD} {n : ByteArray} (h : w.ownsRow B 9 1 (.slice (some ⟨g, 0, none⟩) fs.length c) fs.length (nmC fs)) (hno : ∀ f ∈ fs, f.name ≠ n) (hfew : fs.length ≤ 64) (hc : fs.length ≤ c ∧ c ≤ 9223372036854775807) :
    Calls Tryz.prog 62 #[.slice (some ⟨g, 0, none⟩) fs.length c, .string n] w fun e w' => e = .returned (.bool false) ∧ w' = w := by
  have HI : Hid _ := index_no h hno hfew hc
  clear h hno
  go_enter Tryz.func62, Tryz.ntmps62
  go_wp2_with fail
  refine Calls.mono HI.out ?_
  rintro e w1 ⟨rfl, hw1⟩
  subst w1
  go_wp2_with fail
  go_ret
  exact ⟨rfl, rfl⟩

/-- The writes of a Put, as functions that have caught the disk and the bytes. -/
abbrev wfn1 (B : Nat) : Value := .func (.func 56) #[] #[.pointer (some ⟨B, 0, none⟩), .pointer (some ⟨B + 1, 0, none⟩)]
abbrev wfn2 (B : Nat) : Value := .func (.func 58) #[] #[.pointer (some ⟨B, 0, none⟩)]
abbrev wfn3 (B : Nat) : Value := .func (.func 60) #[] #[.pointer (some ⟨B, 0, none⟩)]

set_option maxHeartbeats 1000000 in
theorem writes_no {w : World} {p : Nat} {fv : Value} {ms : List FiM} {D : DkD} (h : IsDk w p fv ms D) (ok : DkOk D) (hno : hasF D.files newN = false) (x : Option Addr) (l y : Nat) :
    Calls Tryz.prog 31 #[.pointer (some ⟨p, 0, none⟩), .slice x l y] w fun e w' => e = .returned (.slice (some ⟨w.heap.size + 2, 0, none⟩) 3 3) ∧ Below w.heap.size w w' ∧ w'.heap[w.heap.size]? = some (.cells #[.pointer (some ⟨p, 0, none⟩)] 37 (0, 0)) ∧ w'.heap[w.heap.size + 1]? = some (.cells #[.slice x l y] 22 (0, 0)) ∧ w'.heap[w.heap.size + 2]? = some (.cells #[wfn1 w.heap.size, wfn2 w.heap.size, wfn3 w.heap.size] 49 (0, 0)) := by
  obtain ⟨W, eW⟩ : ∃ W, W = ((w.alloc (.cells #[.pointer (some ⟨p, 0, none⟩)] 37)).alloc (.cells #[.slice x l y] 22)).alloc (.cells #[wfn1 w.heap.size, wfn2 w.heap.size, wfn3 w.heap.size] 49) := ⟨_, rfl⟩
  have hs1 : (w.alloc (.cells #[.pointer (some ⟨p, 0, none⟩)] 37)).heap.size = w.heap.size + 1 := World.size_alloc ..
  have hs2 : ((w.alloc (.cells #[.pointer (some ⟨p, 0, none⟩)] 37)).alloc (.cells #[.slice x l y] 22)).heap.size = w.heap.size + 2 := by rw [World.size_alloc, hs1]
  have hs3 : W.heap.size = w.heap.size + 3 := by rw [eW, World.size_alloc, hs2]
  have hb3 : Below w.heap.size w W := by rw [eW]; exact Below.step (one_allocK _ _) (Below.step (one_allocK _ _) (one_allocK _ _))
  have r0 : W.heap[w.heap.size]? = some (.cells #[.pointer (some ⟨p, 0, none⟩)] 37 (0, 0)) := by
    rw [eW]
    exact (Below.kept (one_allocK _ _)).heap ((Below.kept (one_allocK _ _)).heap (heap_alloc_new w _) (fun e => by omega)) (fun e => by omega)
  have r1 : W.heap[w.heap.size + 1]? = some (.cells #[.slice x l y] 22 (0, 0)) := by
    rw [eW]
    have h1 := heap_alloc_new (w.alloc (.cells #[.pointer (some ⟨p, 0, none⟩)] 37)) (.cells #[.slice x l y] 22)
    rw [hs1] at h1
    exact (Below.kept (one_allocK _ _)).heap h1 (fun e => by omega)
  have r2 : W.heap[w.heap.size + 2]? = some (.cells #[wfn1 w.heap.size, wfn2 w.heap.size, wfn3 w.heap.size] 49 (0, 0)) := by
    rw [eW]
    have h1 := heap_alloc_new ((w.alloc (.cells #[.pointer (some ⟨p, 0, none⟩)] 37)).alloc (.cells #[.slice x l y] 22)) (.cells #[wfn1 w.heap.size, wfn2 w.heap.size, wfn3 w.heap.size] 49)
    rw [hs2] at h1
    exact h1
  have HN : Hid _ := dNames_any (h.later hb3) ok
  have HX : Hid (Below w.heap.size w W ∧ W.heap[w.heap.size]? = some (.cells #[.pointer (some ⟨p, 0, none⟩)] 37 (0, 0)) ∧ W.heap[w.heap.size + 1]? = some (.cells #[.slice x l y] 22 (0, 0)) ∧ W.heap[w.heap.size + 2]? = some (.cells #[wfn1 w.heap.size, wfn2 w.heap.size, wfn3 w.heap.size] 49 (0, 0)) ∧ DkOk D ∧ ∀ f ∈ D.files, f.name ≠ newN) := ⟨hb3, r0, r1, r2, ok, fun f hf e => by
    have := (hasF_mem ok.rise newN).2 ⟨f, hf, e⟩
    rw [hno] at this
    cases this⟩
  have c0 : W.cell? ⟨w.heap.size, 0, none⟩ = some (.pointer (some ⟨p, 0, none⟩)) := cell_of_row W _ 0 _ _ _ r0
  have HE : Hid _ := eW
  have hlW := lt_of_block r0
  have HS3 : Hid _ := hs3
  clear h ok hno eW hb3 r0 r1 r2 hs1 hs2 hs3
  go_enter Tryz.func31, Tryz.ntmps31
  go_upto_region 2 with fail
  rw [← HE.out]
  go_wp2_with fail
  refine Calls.mono HN.out ?_
  rintro e w1 ⟨rfl, hn1, hb1⟩
  have HC : Hid _ := contains_no hn1 HX.out.2.2.2.2.2 HX.out.2.2.2.2.1.few ⟨Nat.le_refl _, by have := HX.out.2.2.2.2.1.few; omega⟩
  have HB1 : Hid _ := hb1
  clear hn1 hb1 HN
  go_wp2_with fail
  refine Calls.mono HC.out ?_
  rintro e w2 ⟨rfl, hw2⟩
  subst w2
  go_wp2_with fail
  go_ret
  have hs3 := HS3.out
  exact ⟨rfl, Below.step HX.out.1 HB1.out, (Below.kept HB1.out).heap HX.out.2.1 (fun e => by omega), (Below.kept HB1.out).heap HX.out.2.2.1 (fun e => by omega), (Below.kept HB1.out).heap HX.out.2.2.2.1 (fun e => by omega)⟩

set_option maxHeartbeats 400000 in
theorem wr1_any {w : World} {p : Nat} {fv : Value} {ms : List FiM} {D : DkD} (h : IsDk w p fv ms D) (ok : DkOk D) (hw : D.writes ≤ 4611686018427387904) (B : Nat) (u : Value) (ys : List Int) (c0 : w.cell? ⟨B, 0, none⟩ = some (.pointer (some ⟨p, 0, none⟩))) (c1 : w.cell? ⟨B + 1, 0, none⟩ = some u) (hu : Sees w u ys) (hap : ys ≠ [] → ∀ k, u.ownBlock = some k → k < w.heap.size ∧ k ∉ foot p fv ms) (hyl : ys.length ≤ 100000000000) :
    Calls Tryz.prog 56 #[.pointer (some ⟨B, 0, none⟩), .pointer (some ⟨B + 1, 0, none⟩)] w (ActTo w p fv ms (D.act (D.errA newN ys.length) (appF D.files newN ys))) := by
  have HA : Hid _ := append_any h ok hw newN u ys hu hap hyl
  have hl0 := World.block_lt_of_cell? w _ c0
  have hl1 := World.block_lt_of_cell? w _ c1
  obtain ⟨ua, uc, rfl, _⟩ := hu
  clear h ok hap
  go_enter Tryz.func56, Tryz.ntmps56
  go_wp2_with fail
  refine Calls.mono HA.out ?_
  rintro e w1 ⟨rfl, ht⟩
  have HT : Hid _ := ht
  clear ht
  go_wp2_with fail
  go_ret
  exact ⟨rfl, HT.out⟩

set_option maxHeartbeats 400000 in
theorem wr2_any {w : World} {p : Nat} {fv : Value} {ms : List FiM} {D : DkD} (h : IsDk w p fv ms D) (ok : DkOk D) (hw : D.writes ≤ 4611686018427387904) (B : Nat) (c0 : w.cell? ⟨B, 0, none⟩ = some (.pointer (some ⟨p, 0, none⟩))) :
    Calls Tryz.prog 58 #[.pointer (some ⟨B, 0, none⟩)] w (ActTo w p fv ms (D.act (D.errO newN) (updF D.files newN durF))) := by
  have HA : Hid _ := sync_any h ok hw newN
  have hl0 := World.block_lt_of_cell? w _ c0
  clear h ok
  go_enter Tryz.func58, Tryz.ntmps58
  go_wp2_with fail
  refine Calls.mono HA.out ?_
  rintro e w1 ⟨rfl, ht⟩
  have HT : Hid _ := ht
  clear ht
  go_wp2_with fail
  go_ret
  exact ⟨rfl, HT.out⟩

set_option maxHeartbeats 400000 in
theorem wr3_any {w : World} {p : Nat} {fv : Value} {ms : List FiM} {D : DkD} (h : IsDk w p fv ms D) (ok : DkOk D) (hw : D.writes ≤ 4611686018427387904) (B : Nat) (c0 : w.cell? ⟨B, 0, none⟩ = some (.pointer (some ⟨p, 0, none⟩))) :
    Calls Tryz.prog 60 #[.pointer (some ⟨B, 0, none⟩)] w (ActTo w p fv ms (D.act (D.errR newN manN) (renF D.files newN manN))) := by
  have HA : Hid _ := rename_any h ok hw newN manN
  have hl0 := World.block_lt_of_cell? w _ c0
  clear h ok
  go_enter Tryz.func60, Tryz.ntmps60
  go_wp2_with fail
  refine Calls.mono HA.out ?_
  rintro e w1 ⟨rfl, ht⟩
  have HT : Hid _ := ht
  clear ht
  go_wp2_with fail
  go_ret
  exact ⟨rfl, HT.out⟩
end Go.Proofs.YtjdigknhiopdeaaGreat
