/- What the document's Sequence answers, and the walk of PathNumbers of the statements of layer 5. -/
import Derived.Test.YtgaemldkpfbomaaDoorPcD
import Derived.Test.YtgaemldkpfbomaaDoorPaS
namespace Go.Proofs.YtgaemldkpfbomaaDoor
open Go.RowKit Go.Shelf
set_option maxRecDepth 8000
namespace pathNumbers
set_option linter.unusedVariables false

theorem digits_any (n : Int) (h0 : -2147483648 ≤ n) (h1 : n ≤ 2147483647) (w : World) :
    Calls Tryd.prog 10 #[.int .i32 n] w fun e w' => e = .returned (bytesV (seqD n)) ∧ Below w.heap.size w w' := by
  by_cases h : n < 0
  · exact digits_neg n h h0 w
  · exact digits_pos n (by omega) h1 w

theorem seqD_len (n : Int) (h0 : -2147483648 ≤ n) (h1 : n ≤ 2147483647) : (seqD n).length ≤ 11 := by
  have := (dec_pad 9 n.natAbs (by omega)).1
  unfold seqD
  split
  · simp; omega
  · simp; omega

set_option maxHeartbeats 1000000 in
theorem seqR_any (s : ByteArray) (n : Int) (h0 : -2147483648 ≤ n) (h1 : n ≤ 2147483647) (hl : s.size ≤ 4000000000) (w : World) :
    Calls Tryd.prog 6 #[.string s, .int .i32 n] w fun e w' => e = .returned (checkedV (s.data.toList ++ seqD n)) ∧ Below w.heap.size w w' := by
  obtain ⟨db, hdb⟩ : ∃ db : ByteArray, db = ⟨(seqD n).toArray⟩ := ⟨_, rfl⟩
  have hdl : db.data.toList = seqD n := by rw [hdb]
  have hds : db.size ≤ 11 := by rw [size_list, hdl]; exact seqD_len n h0 h1
  have H1 : Hid (∀ w, Calls Tryd.prog 10 #[.int .i32 n] w fun e w' => e = .returned (.string db) ∧ Below w.heap.size w w') := fun w => by
    have := digits_any n h0 h1 w; rw [bytesV_list db _ hdl] at this; exact this
  have hall : (s ++ db).data.toList = s.data.toList ++ seqD n := by rw [app_list, hdl]
  have hsz : (s ++ db).size ≤ 4294967295 := by rw [app_size]; omega
  cases hb : isPb (s.data.toList ++ seqD n) with
  | true =>
    have H2 : Hid (∀ w, Calls Tryd.prog 11 #[.string (s ++ db)] w fun e w' => e = .returned (.bool true) ∧ Below w.heap.size w w') := fun w => by
      have := is_any (s ++ db) hsz w; rw [hall, hb] at this; exact this
    have hv : checkedV (s.data.toList ++ seqD n) = .tuple #[.string (s ++ db), .int .i64 0] := by
      unfold checkedV; rw [hb, if_pos rfl, bytesV_list (s ++ db) _ hall]
    rw [hv]
    clear hv hb hall hdl hdb
    go_enter Tryd.func6, Tryd.ntmps6
    go_wp2_with fail
    refine (H1.out _).mono ?_
    rintro e w1 ⟨rfl, k1⟩
    go_wp2_with fail
    refine (H2.out _).mono ?_
    rintro e w2 ⟨rfl, k2⟩
    have HB : Hid (Below w.heap.size w w2) := k1.trans (k2.mono k1.size)
    clear k1 k2
    go_wp2
    go_ret2
    exact ⟨rfl, HB.out⟩
  | false =>
    have H2 : Hid (∀ w, Calls Tryd.prog 11 #[.string (s ++ db)] w fun e w' => e = .returned (.bool false) ∧ Below w.heap.size w w') := fun w => by
      have := is_any (s ++ db) hsz w; rw [hall, hb] at this; exact this
    have hv : checkedV (s.data.toList ++ seqD n) = .tuple #[.string ⟨#[]⟩, .int .i64 50] := by
      unfold checkedV; rw [hb]; rfl
    rw [hv]
    clear hv hb hall hdl hdb
    go_enter Tryd.func6, Tryd.ntmps6
    go_wp2_with fail
    refine (H1.out _).mono ?_
    rintro e w1 ⟨rfl, k1⟩
    go_wp2_with fail
    refine (H2.out _).mono ?_
    rintro e w2 ⟨rfl, k2⟩
    have HB : Hid (Below w.heap.size w w2) := k1.trans (k2.mono k1.size)
    clear k1 k2
    go_wp2
    go_ret2
    exact ⟨rfl, HB.out⟩

theorem seven : checkedV ((⟨#[47, 97]⟩ : ByteArray).data.toList ++ seqD 7) = .tuple #[.string ⟨#[47, 97, 48, 48, 48, 48, 48, 48, 48, 48, 48, 55]⟩, .int .i64 0] := by
  have e : seqD 7 = padk 10 7 := seqD_pos (by omega) (by omega)
  have e2 : padk 10 7 = [48, 48, 48, 48, 48, 48, 48, 48, 48, 55] := by decide
  have hd : Digs (padk 10 7) := padk_digs 10 7
  have h0 : padk 10 7 ≠ [] := by rw [e2]; simp
  have hb : isPb ([47, 97] ++ padk 10 7) = true := by
    rw [isPb_iff (by rw [e2]; decide)]
    refine .inr ⟨[97] ++ padk 10 7, rfl, by rw [e2]; decide, fun s hs => ?_⟩
    have es : segs ([97] ++ padk 10 7) = [[97] ++ padk 10 7] := segs_none (by rw [e2]; unfold NoSlash; decide)
    rw [es] at hs
    simp only [List.mem_cons, List.not_mem_nil, or_false] at hs
    subst hs
    refine ⟨(nf_digs_app hd h0 [97]).2 (by rw [e2]; decide), (rf_digs_app hd h0 [97]).2 ?_⟩
    rw [rf_ascii 97 [] (by decide) (by decide), rf_nil]
    rfl
  rw [e]
  show checkedV ([47, 97] ++ padk 10 7) = _
  unfold checkedV
  rw [hb, if_pos rfl, e2]
  rfl

set_option maxHeartbeats 2000000 in
theorem walk (p : ByteArray) (n : Int) (wn : (Lit.int .i32 n).wf = true) (w : World) (ht : Tab w) : Calls Tryd.prog 3 #[.string p, .int .i32 n] w fun e w' => e = .returned (.bool true) ∧ Below w.heap.size w w' := by
  have HT : Hid (Tab w) := ht
  clear ht
  have rn : -2147483648 ≤ n ∧ n ≤ 2147483647 := by
    have m1 : IntKind.i32.min = -2147483648 := rfl
    have m2 : IntKind.i32.max = 2147483647 := rfl
    simp [Lit.wf] at wn; omega
  clear wn
  by_cases h : 2147483632 ≤ p.size
  · have hd := decide_eq_true h
    go_enter Tryd.func3, Tryd.ntmps3
    go_wp2_with fail
    refine (long_any _ _).mono ?_
    rintro e w1 ⟨rfl, rfl⟩
    rw [hd]
    go_wp2
    go_ret
    exact ⟨rfl, Below.refl _ _⟩
  · have hd := decide_eq_false h
    obtain ⟨sb, eb, hv⟩ : ∃ (sb : ByteArray) (eb : Int), checkedV (p.data.toList ++ seqD n) = .tuple #[.string sb, .int .i64 eb] := by
      unfold checkedV
      split
      · exact ⟨_, _, rfl⟩
      · exact ⟨_, _, rfl⟩
    have H1 : Hid (∀ w, Tab w → Calls Tryd.prog 5 #[.string p, .int .i32 n] w fun e w' => e = .returned (.tuple #[.string sb, .int .i64 eb]) ∧ Below w.heap.size w w') := fun w ht => by
      have := seq_any p n rn.1 rn.2 (by omega) w ht; rw [hv] at this; exact this
    have H2 : Hid (∀ w, Calls Tryd.prog 6 #[.string p, .int .i32 n] w fun e w' => e = .returned (.tuple #[.string sb, .int .i64 eb]) ∧ Below w.heap.size w w') := fun w => by
      have := seqR_any p n rn.1 rn.2 (by omega) w; rw [hv] at this; exact this
    have H3 : Hid (∀ w, Tab w → Calls Tryd.prog 5 #[.string ⟨#[47, 97]⟩, .int .i32 7] w fun e w' => e = .returned (.tuple #[.string ⟨#[47, 97, 48, 48, 48, 48, 48, 48, 48, 48, 48, 55]⟩, .int .i64 0]) ∧ Below w.heap.size w w') := fun w ht => by
      have := seq_any ⟨#[47, 97]⟩ 7 (by omega) (by omega) (by decide) w ht; rw [seven] at this; exact this
    clear hv
    go_enter Tryd.func3, Tryd.ntmps3
    go_wp2_with fail
    refine (long_any _ _).mono ?_
    rintro e w1 ⟨rfl, rfl⟩
    rw [hd]
    go_wp2_with fail
    refine (H1.out _ HT.out).mono ?_
    rintro e w2 ⟨rfl, k2⟩
    have t2 := HT.out.later k2
    go_wp2_with fail
    refine (H2.out _).mono ?_
    rintro e w3 ⟨rfl, k3⟩
    have t3 := t2.later k3
    have j3 := k2.trans (k3.mono k2.size)
    clear k2 k3 t2
    go_wp2_with fail
    refine (H3.out _ t3).mono ?_
    rintro e w4 ⟨rfl, k4⟩
    have HB : Hid (Below w1.heap.size w1 w4) := j3.trans (k4.mono j3.size)
    clear k4 j3 t3
    go_wp2
    go_ret
    exact ⟨rfl, HB.out⟩

end pathNumbers
end Go.Proofs.YtgaemldkpfbomaaDoor
