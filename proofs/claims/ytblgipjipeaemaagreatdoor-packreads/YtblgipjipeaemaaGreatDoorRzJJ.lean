/- The walk of PackReads: three Readers over one list of bytes that is written over. -/
import Derived.Test.YtblgipjipeaemaaGreatDoorRzHJ
import Derived.Test.YtblgipjipeaemaaGreatDoorFrmAJ
import Derived.Test.YtblgipjipeaemaaGreatDoorShellJ
namespace Go.Proofs.YtblgipjipeaemaaGreatDoor
open Go.RowKit
set_option maxRecDepth 8000
namespace Rz

/-- A fresh Reader: its blocks lie from lo on, below hi. -/
structure Rdr (lo hi : Nat) (w : World) (g : Nat) (v : Value) (bs : List Int) : Prop where
  isR : IsR w g v bs 0
  own : Owns w lo v bs
  glo : lo ≤ g
  ghi : g < hi
  vhi : ∀ k, v.ownBlock = some k → k < hi

section
variable {lo hi : Nat} {w w' w0 : World} {g gd : Nat} {v vd : Value} {bs : List Int}

theorem Rdr.vlo (h : Rdr lo hi w g v bs) : ∀ k, v.ownBlock = some k → lo ≤ k := fun _ e => (own_row h.own e).2.1
theorem Rdr.ne (h : Rdr lo hi w g v bs) : v.ownBlock ≠ some g := fun e => ne_type h.isR.1 (own_row h.own e).1.choose_spec (by decide) rfl
theorem Rdr.kept {S : Nat → Prop} (h : Rdr lo hi w g v bs) (hk : Kept w w' S) (hS : ∀ k, S k → k < lo ∨ hi ≤ k) : Rdr lo hi w' g v bs := by
  have h1 : ∀ k, lo ≤ k → k < hi → ¬ S k := fun k a b s => by have := hS k s; omega
  exact ⟨h.isR.kept hk (h1 _ h.glo h.ghi) (fun k e => h1 k (h.vlo k e) (h.vhi k e)), Owns.kept h.own hk (fun k e => h1 k (h.vlo k e) (h.vhi k e)), h.glo, h.ghi, h.vhi⟩
theorem Rdr.new (h : Rdr lo hi w g v bs) (hk : Below w.heap.size w w') : Rdr lo hi w' g v bs := by
  have h1 : Kept w w' (fun _ => False) := news hk
  exact h.kept h1 (fun _ h => h.elim)
theorem Rdr.of {w0 : World} (h : IsR w g v bs 0) (ho : Owns w w0.heap.size v bs) (hg : w0.heap.size ≤ g) : Rdr w0.heap.size w.heap.size w g v bs := ⟨h, ho, hg, lt_of_block h.1, fun _ e => (own_row ho e).2.2⟩

theorem reads_step (ask : Bool) (a : Option Addr) (os : List OpD) (cap : Nat) (hs : SeesOps w0 (.slice a os.length cap) os) (ht : Tab w0) (hg0 : 1 < w0.heap.size) (hb0 : Below w0.heap.size w0 w) (h : Rdr lo hi w g v bs) (hlo : w0.heap.size ≤ lo) (hhi : hi ≤ w.heap.size)
    (hB : Below w.heap.size w w') (hq : IsQ w' gd vd bs 0 0) (hgd : w.heap.size ≤ gd) (hvd : ∀ k, vd.ownBlock = some k → w.heap.size ≤ k ∧ k < gd) (hbt : Byts bs) :
    Calls Tryz.prog 11 #[.pointer (some ⟨g, 0, none⟩), .pointer (some ⟨gd, 0, none⟩), .slice a os.length cap, .bool ask] w' fun e w2 => e = .returned (.bool true) ∧ Kept w w2 (fun k => lo ≤ k ∧ k < hi) := by
  have h' := h.new hB
  have hlt := lt_of_block hq.1
  have hgi := h.ghi
  have hgl := h.glo
  have hown : bs ≠ [] → ∃ C c, v = .slice (some ⟨C, 0, none⟩) bs.length c ∧ lo ≤ C ∧ C < hi ∧ C ≠ g ∧ ∃ cs, w'.heap[C]? = some (.cells cs 5 (0, 0)) ∧ bs.length ≤ cs.size := fun hb => by
    rcases h'.own.2 with ⟨_, h0⟩ | ⟨C, c, cur, e, h1, h2, h3, h4, h5, _⟩
    · exact absurd (List.eq_nil_of_length_eq_zero h0) hb
    · exact ⟨C, c, e, h1, h.vhi C (by rw [e]; rfl), fun e2 => h.ne (by rw [e, e2]; rfl), cur, h2, by omega⟩
  obtain ⟨C, hC⟩ : ∃ C, bs ≠ [] → ∃ c, v = .slice (some ⟨C, 0, none⟩) bs.length c ∧ lo ≤ C ∧ C < hi ∧ C ≠ g ∧ ∃ cs, w'.heap[C]? = some (.cells cs 5 (0, 0)) ∧ bs.length ≤ cs.size := by
    by_cases hb : bs = []
    · exact ⟨0, fun h => absurd hb h⟩
    · obtain ⟨C, r⟩ := hown hb
      exact ⟨C, fun _ => r⟩
  have hlen := hq.2.2.2.1
  refine (reads_any g gd C bs.length v vd bs ask a os cap w0 w' hs ht hg0 (hb0.trans (hB.mono hb0.size)) ⟨Nat.lt_of_lt_of_le hgi (Nat.le_trans hhi hB.size), hlt, by omega, fun hb => ?_, fun hb k e => ?_, hbt⟩ ⟨by omega, by have := hb0.size; omega, fun hb => ?_⟩ ⟨?_, hq, fun hb => ?_, by simp, fun hb => by simpa using hb⟩ hlen (fun hb => ?_)).mono ?_
  · obtain ⟨c, _, _, h2, h3, _⟩ := hC hb
    exact ⟨by have := hB.size; omega, h3, by omega⟩
  · have := hvd k e
    obtain ⟨c, _, _, h2, _⟩ := hC hb
    exact ⟨by omega, by omega, by omega⟩
  · obtain ⟨c, _, h1, _⟩ := hC hb
    omega
  · have := h'.isR
    simpa using this
  · have hb' : bs ≠ [] := by simpa using hb
    obtain ⟨c, e, _⟩ := hC hb'
    exact ⟨0, c, by simpa using e, by simp⟩
  · obtain ⟨c, _, _, _, _, h4⟩ := hC hb
    exact h4
  · rintro e w2 ⟨rfl, hk⟩
    refine ⟨rfl, ⟨hk.os.trans hB.os, hk.tape.trans hB.tape, hk.output.trans hB.output, Nat.le_trans hB.size hk.size, fun k hk' hn => ?_⟩⟩
    rw [hk.block k (Nat.lt_of_lt_of_le hk' hB.size) (fun e => ?_)]
    · exact hB.block k hk'
    · rcases e with e | e | ⟨hb, e⟩
      · exact hn (by omega)
      · omega
      · obtain ⟨c, _, h1, h2, _⟩ := hC hb
        exact hn (by omega)
end

/-- The list turned: one bit of each byte. -/
def turnL (xs : List Int) : List Int := xs.map fun x => bits .xor .u8 x 1
theorem turnL_byts {xs : List Int} (hb : Byts xs) : Byts (turnL xs) := by
  intro y hy
  obtain ⟨x, hx, rfl⟩ := List.mem_map.1 hy
  have := hb x hx
  rw [u8_xor x 1 (by omega) (by omega) (by omega) (by omega)]
  have : x.toNat ^^^ (1 : Int).toNat < 2 ^ 8 := Nat.xor_lt_two_pow (by omega) (by decide)
  omega

/-- The wide list of which the first i bytes are turned. -/
def midL (bs : List Int) (i : Nat) : List Int := turnL (bs.take i) ++ (wide bs).drop i
theorem midL_len (bs : List Int) (i : Nat) (h : i ≤ bs.length) : (midL bs i).length = bs.length + 64 := by
  unfold midL turnL; simp [wide_len]; omega
theorem midL_zero (bs : List Int) : midL bs 0 = wide bs := by simp [midL, turnL]
theorem midL_get (bs : List Int) (i : Nat) (h : i < bs.length) : (midL bs i).getD i 0 = bs.getD i 0 := by
  have hl : (turnL (bs.take i)).length = i := by simp [turnL]; omega
  unfold midL
  rw [List.getD_eq_getElem?_getD, List.getElem?_append_right (by omega), hl, Nat.sub_self, List.getElem?_drop, Nat.add_zero, ← List.getD_eq_getElem?_getD, wide_nth bs i (by omega), if_pos h]
theorem midL_set (bs : List Int) (i : Nat) (h : i < bs.length) : (midL bs i).set i (bits .xor .u8 (bs.getD i 0) 1) = midL bs (i + 1) := by
  have hl : (turnL (bs.take i)).length = i := by simp [turnL]; omega
  have hw : i < (wide bs).length := by rw [wide_len]; omega
  unfold midL
  rw [List.set_append_right _ _ (by omega), hl, Nat.sub_self, List.drop_eq_getElem_cons hw, List.set_cons_zero]
  have e1 : bs.take (i + 1) = bs.take i ++ [bs.getD i 0] := by rw [List.take_succ_eq_append_getElem h]; simp [List.getD_eq_getElem?_getD, h]
  rw [e1]
  unfold turnL
  simp
theorem midL_take (bs : List Int) : (midL bs bs.length).take bs.length = turnL bs := by
  unfold midL
  rw [List.take_length, List.take_append_of_le_length (by simp [turnL]), List.take_of_length_le (by simp [turnL])]

set_option maxHeartbeats 4000000 in
theorem packReads_walk (ab : Option Addr) (bs : List Int) (cb : Nat) (a : Option Addr) (os : List OpD) (cap : Nat) (w : World) (hb : Sees w (.slice ab bs.length cb) bs) (hbt : Byts bs) (hs : SeesOps w (.slice a os.length cap) os) (ht : Tab w) (hg0 : 1 < w.heap.size) :
    Calls Tryz.prog 3 #[.slice ab bs.length cb, .slice a os.length cap] w fun e w' => e = .returned (.bool true) ∧ Below w.heap.size w w' := by
  have q1 : bs.length ≤ cb ∧ cb ≤ 9223372036854775807 := by
    obtain ⟨_, _, e, h1, h2, _⟩ := hb; simp at e; obtain ⟨_, rfl⟩ := e; unfold maxLen at h2; omega
  obtain ⟨q3, q4⟩ := q1
  have HS : Hid (Sees w (.slice ab bs.length cb) bs ∧ Byts bs ∧ SeesOps w (.slice a os.length cap) os ∧ Tab w) := ⟨hb, hbt, hs, ht⟩
  clear hb hbt hs ht
  go_enter Tryz.func3, Tryz.ntmps3
  go_wp2_with fail
  refine (works_any _).mono ?_
  rintro e w1 ⟨rfl, hb1⟩
  have HB1 : Hid (Below w.heap.size w w1) := hb1
  clear hb1
  by_cases hl : bs.length ≤ 67108864
  case neg =>
    have hl1 : decide ((67108864 : Int) < (bs.length : Int)) = true := decide_eq_true (by omega)
    go_wp2
    go_ret
    exact ⟨rfl, HB1.out⟩
  have hl1 : decide ((67108864 : Int) < (bs.length : Int)) = false := decide_eq_false (by omega)
  go_wp2_with fail
  refine (long_any _ os _ (packTells.SeesOps.below HS.out.2.2.1 HB1.out (Nat.le_refl _))).mono ?_
  rintro e w2 ⟨r, rfl, _, m2, hw2⟩
  have HB2 : Hid (Below w.heap.size w w2) := by
    have hk : Kept w1 w2 (fun _ => False) := by rw [hw2]; exact (Kept.refl _ _).drewN _
    exact HB1.out.trans (hk.below HB1.out.size (fun _ h => h.elim))
  clear hw2 HB1
  cases r with
  | true =>
    go_wp2
    go_ret
    exact ⟨rfl, HB2.out⟩
  | false =>
    go_wp2_with fail
    refine (wideBytes_any _ bs _ (HS.out.1.below HB2.out (Nat.le_refl _)) (by omega)).mono ?_
    rintro e w3 ⟨rfl, hown, hb3⟩
    have HB3 : Hid (Owns w3 w2.heap.size (.slice (some ⟨w2.heap.size, 0, none⟩) (midL bs 0).length (bs.length + 64)) (midL bs 0) ∧ Below w.heap.size w w3 ∧ w.heap.size ≤ w2.heap.size) := by
      rw [midL_zero]; exact ⟨hown, HB2.out.trans (hb3.mono HB2.out.size), HB2.out.size⟩
    have HIN : Hid (∀ W, Owns W w2.heap.size (.slice (some ⟨w2.heap.size, 0, none⟩) (midL bs 0).length (bs.length + 64)) (midL bs 0) → Sees W (.slice (some ⟨w2.heap.size, 0, none⟩) bs.length (bs.length + 64)) bs) := fun W ho => by
      have h := sees_prefix (n := bs.length) ho (by rw [midL_len bs 0 (Nat.zero_le _)]; omega)
      rw [midL_zero, wide_take] at h
      exact h
    clear hown hb3 HB2
    generalize w2.heap.size = N at *
    go_wp2_with fail
    refine (new_any _ bs _ (HIN.out _ HB3.out.1) (by omega)).mono ?_
    rintro e w4 ⟨g1, v1, rfl, i1, g1l, o1, b4⟩
    have H4 : Hid (Owns w4 N (.slice (some ⟨N, 0, none⟩) (midL bs 0).length (bs.length + 64)) (midL bs 0) ∧ Below w.heap.size w w4 ∧ Rdr w3.heap.size w4.heap.size w4 g1 v1 bs ∧ w3.heap.size ≤ w4.heap.size ∧ w.heap.size ≤ N ∧ N < w3.heap.size) :=
      ⟨Owns.kept HB3.out.1 (news b4) (fun _ _ h => h), HB3.out.2.1.trans (b4.mono HB3.out.2.1.size), Rdr.of i1 o1 g1l, b4.size, HB3.out.2.2, (own_row HB3.out.1 rfl).2.2⟩
    clear i1 g1l o1 b4 HB3
    go_wp2_with fail
    refine (new_any _ bs _ (HIN.out _ H4.out.1) (by omega)).mono ?_
    rintro e w5 ⟨g2, v2, rfl, i1, g1l, o1, b5⟩
    have H5 : Hid (Owns w5 N (.slice (some ⟨N, 0, none⟩) (midL bs 0).length (bs.length + 64)) (midL bs 0) ∧ Below w.heap.size w w5 ∧ Rdr w3.heap.size w4.heap.size w5 g1 v1 bs ∧ Rdr w4.heap.size w5.heap.size w5 g2 v2 bs ∧ w3.heap.size ≤ w4.heap.size ∧ w4.heap.size ≤ w5.heap.size ∧ w.heap.size ≤ N ∧ N < w3.heap.size) :=
      ⟨Owns.kept H4.out.1 (news b5) (fun _ _ h => h), H4.out.2.1.trans (b5.mono H4.out.2.1.size), H4.out.2.2.1.new b5, Rdr.of i1 o1 g1l, H4.out.2.2.2.1, b5.size, H4.out.2.2.2.2⟩
    clear i1 g1l o1 b5 H4
    go_wp2_with fail
    refine (eqBytes_any _ _ bs bs _ (HIN.out _ H5.out.1) (HS.out.1.below H5.out.2.1 (Nat.le_refl _))).mono ?_
    rintro e w6 ⟨rfl, n6, hw6⟩
    have ed : decide (bs = bs) = true := decide_eq_true rfl
    rw [ed]
    have hk6 : Kept w5 w6 (fun _ => False) := by rw [hw6]; exact (Kept.refl _ _).drewN _
    have hz6 : w6.heap.size = w5.heap.size := by rw [hw6]; rfl
    have H6 : Hid (Owns w6 N (.slice (some ⟨N, 0, none⟩) (midL bs 0).length (bs.length + 64)) (midL bs 0) ∧ Below w.heap.size w w6 ∧ Rdr w3.heap.size w4.heap.size w6 g1 v1 bs ∧ Rdr w4.heap.size w5.heap.size w6 g2 v2 bs ∧ w3.heap.size ≤ w4.heap.size ∧ w4.heap.size ≤ w5.heap.size ∧ w.heap.size ≤ N ∧ N < w3.heap.size ∧ w5.heap.size ≤ w6.heap.size) :=
      ⟨Owns.kept H5.out.1 hk6 (fun _ _ h => h), H5.out.2.1.trans (hk6.below H5.out.2.1.size (fun _ h => h.elim)), H5.out.2.2.1.kept hk6 (fun _ h => h.elim), H5.out.2.2.2.1.kept hk6 (fun _ h => h.elim), H5.out.2.2.2.2.1, H5.out.2.2.2.2.2.1, H5.out.2.2.2.2.2.2.1, H5.out.2.2.2.2.2.2.2, Nat.le_of_eq hz6.symm⟩
    clear ed hw6 hk6 hz6 H5
    have HSP : Hid _ := spareBytes_any N bs (wide bs) w6 (by have h := H6.out.1; rw [midL_zero] at h; exact h) (wide_len bs) (fun j h1 h2 => by rw [wide_nth bs j h2, if_neg (by omega)]) (by omega)
    generalize w3.heap.size = s3 at *
    generalize w4.heap.size = s4 at *
    generalize w5.heap.size = s5 at *
    go_wp2_with fail
    refine Calls.mono HSP.out ?_
    rintro e wx ⟨rfl, e9⟩
    rw [e9]
    clear e9 HSP HIN
    go_wp2
    go_loopw [10] (fun iv wr => ∃ i : Nat, iv = .int .i64 i ∧ i ≤ bs.length ∧ Owns wr N (.slice (some ⟨N, 0, none⟩) (midL bs i).length (bs.length + 64)) (midL bs i) ∧ Kept w6 wr (· = N)) (fun iv _ => bs.length - (intOf iv).toNat)
    case atStart => exact ⟨0, rfl, Nat.zero_le _, H6.out.1, Kept.refl _ _⟩
    case round =>
      obtain ⟨i, rfl, hil, ho, hk⟩ := hrel
      have HO : Hid (Owns wr N (.slice (some ⟨N, 0, none⟩) (midL bs i).length (bs.length + 64)) (midL bs i) ∧ Kept w6 wr (· = N)) := ⟨ho, hk⟩
      clear ho hk
      by_cases hlt : i < bs.length
      · have hc := owns_cell HO.out.1 i (by rw [midL_len bs i hil]; omega)
        rw [midL_get bs i hlt] at hc
        have hf := HO.out.1.frozenAt i
        have R := (owns_set HO.out.1 i (bits .xor .u8 (bs.getD i 0) 1)).1
        have R2 := HO.out.2.setCell ⟨N, i, none⟩ (.int .u8 (bits .xor .u8 (bs.getD i 0) 1)) (fun _ => rfl)
        rw [midL_set bs i hlt] at R
        have HR : Hid _ := And.intro R R2
        clear R R2
        generalize bs.getD i 0 = x at *
        go_wp2
        go_roundw
        case rel => exact ⟨i + 1, by go_num, by omega, HR.out.1, HR.out.2⟩
        case measure => simp [intOf]; omega
      · obtain rfl : i = bs.length := by omega
        have hsee : Sees wr (.slice (some ⟨N, 0, none⟩) bs.length (bs.length + 64)) (turnL bs) := by
          have h := sees_prefix (n := bs.length) HO.out.1 (by rw [midL_len bs _ (Nat.le_refl _)]; omega)
          rw [midL_take] at h
          exact h
        have htl : (turnL bs).length = bs.length := by simp [turnL]
        have H7 : Hid (Sees wr (.slice (some ⟨N, 0, none⟩) bs.length (bs.length + 64)) (turnL bs) ∧ Below w.heap.size w wr ∧ Rdr s3 s4 wr g1 v1 bs ∧ Rdr s4 s5 wr g2 v2 bs ∧ s3 ≤ s4 ∧ s4 ≤ s5 ∧ w.heap.size ≤ s3 ∧ N < s3 ∧ s5 ≤ wr.heap.size ∧ (turnL bs).length = bs.length) :=
          ⟨hsee, H6.out.2.1.trans (HO.out.2.below H6.out.2.1.size (fun k e => by rw [e]; exact H6.out.2.2.2.2.2.2.1)), H6.out.2.2.1.kept HO.out.2 (fun k e => by have := H6.out.2.2.2.2.2.2.2.1; omega), H6.out.2.2.2.1.kept HO.out.2 (fun k e => by have h1 := H6.out.2.2.2.2.1; have h2 := H6.out.2.2.2.2.2.2.2.1; omega), H6.out.2.2.2.2.1, H6.out.2.2.2.2.2.1, by have h1 := H6.out.2.2.2.2.2.2.2.1; have h2 := H6.out.2.2.2.2.2.2.1; omega, H6.out.2.2.2.2.2.2.2.1, Nat.le_trans H6.out.2.2.2.2.2.2.2.2 HO.out.2.size, htl⟩
        clear hsee htl HO H6
        go_wp2_with fail
        refine (copyBytes_any _ (turnL bs) _ H7.out.1 (by rw [H7.out.2.2.2.2.2.2.2.2.2]; omega)).mono ?_
        rintro e w8 ⟨vt, rfl, o8, b8⟩
        have hin8 : Sees w8 (.slice (some ⟨N, 0, none⟩) bs.length (bs.length + 64)) (turnL bs) := H7.out.1.kept (news b8) (fun _ _ h => h)
        have H8 : Hid (Sees w8 (.slice (some ⟨N, 0, none⟩) bs.length (bs.length + 64)) (turnL bs) ∧ Owns w8 wr.heap.size vt (turnL bs) ∧ Below w.heap.size w w8 ∧ Rdr s3 s4 w8 g1 v1 bs ∧ Rdr s4 s5 w8 g2 v2 bs ∧ s3 ≤ s4 ∧ s4 ≤ s5 ∧ w.heap.size ≤ s3 ∧ s5 ≤ wr.heap.size ∧ wr.heap.size ≤ w8.heap.size) :=
          ⟨hin8, o8, H7.out.2.1.trans (b8.mono H7.out.2.1.size), H7.out.2.2.1.new b8, H7.out.2.2.2.1.new b8, H7.out.2.2.2.2.1, H7.out.2.2.2.2.2.1, H7.out.2.2.2.2.2.2.1, H7.out.2.2.2.2.2.2.2.2.1, b8.size⟩
        have HTL : Hid ((turnL bs).length = bs.length) := H7.out.2.2.2.2.2.2.2.2.2
        obtain ⟨ta, tn, tc, rfl⟩ := owns_shape o8
        clear hin8 o8 b8 H7
        go_wp2_with fail
        refine (new_any _ (turnL bs) _ H8.out.1 (by rw [HTL.out]; omega)).mono ?_
        rintro e w9 ⟨g3, v3, rfl, i1, g1l, o1, b9⟩
        have H9 : Hid (Owns w9 wr.heap.size (.slice ta tn tc) (turnL bs) ∧ Below w.heap.size w w9 ∧ Rdr s3 s4 w9 g1 v1 bs ∧ Rdr s4 s5 w9 g2 v2 bs ∧ Rdr w8.heap.size w9.heap.size w9 g3 v3 (turnL bs) ∧ s3 ≤ s4 ∧ s4 ≤ s5 ∧ w.heap.size ≤ s3 ∧ s5 ≤ wr.heap.size ∧ wr.heap.size ≤ w8.heap.size ∧ w8.heap.size ≤ w9.heap.size ∧ (∀ k, (Value.slice ta tn tc).ownBlock = some k → k < w8.heap.size)) :=
          ⟨Owns.kept H8.out.2.1 (news b9) (fun _ _ h => h), H8.out.2.2.1.trans (b9.mono H8.out.2.2.1.size), H8.out.2.2.2.1.new b9, H8.out.2.2.2.2.1.new b9, Rdr.of i1 o1 g1l, H8.out.2.2.2.2.2.1, H8.out.2.2.2.2.2.2.1, H8.out.2.2.2.2.2.2.2.1, H8.out.2.2.2.2.2.2.2.2.1, H8.out.2.2.2.2.2.2.2.2.2, b9.size, fun k e => (own_row H8.out.2.1 e).2.2⟩
        clear i1 g1l o1 b9 H8
        generalize w8.heap.size = s8 at *
        generalize wr.heap.size = s7 at *
        go_wp2_with fail
        refine (refNewG _ bs _ (HS.out.1.below H9.out.2.1 (Nat.le_refl _)) (by omega)).mono ?_
        rintro e w10 ⟨d1, vd1, rfl, iq, gq, fq, bq⟩
        have HZ9 : Hid (s8 ≤ w9.heap.size ∧ s3 ≤ s4 ∧ s4 ≤ s5 ∧ w.heap.size ≤ s3 ∧ s5 ≤ s7 ∧ s7 ≤ s8) := ⟨H9.out.2.2.2.2.2.2.2.2.2.2.1, H9.out.2.2.2.2.2.1, H9.out.2.2.2.2.2.2.1, H9.out.2.2.2.2.2.2.2.1, H9.out.2.2.2.2.2.2.2.2.1, H9.out.2.2.2.2.2.2.2.2.2.1⟩
        have HR1 : Hid _ := reads_step false a os cap HS.out.2.2.1 HS.out.2.2.2 hg0 H9.out.2.1 H9.out.2.2.1 HZ9.out.2.2.2.1 (by have := HZ9.out; omega) bq iq gq fq HS.out.2.1
        clear iq gq fq bq
        go_wp2_with fail
        refine Calls.mono HR1.out ?_
        rintro e w11 ⟨rfl, hk11⟩
        generalize hs9 : w9.heap.size = s9 at *
        have hz11 : s9 ≤ w11.heap.size := by rw [← hs9]; exact hk11.size
        have H11 : Hid (Sees w11 (.slice ta tn tc) (turnL bs) ∧ Below w.heap.size w w11 ∧ Rdr s4 s5 w11 g2 v2 bs ∧ Rdr s8 s9 w11 g3 v3 (turnL bs) ∧ s9 ≤ w11.heap.size) :=
          ⟨(Sees.own H9.out.1).kept hk11 (fun k e h => by have h1 := (own_row H9.out.1 e).2.1; have h2 := HZ9.out; omega), H9.out.2.1.trans (hk11.below H9.out.2.1.size (fun k e => by have h2 := HZ9.out; omega)), H9.out.2.2.2.1.kept hk11 (fun k e => by have h2 := HZ9.out; omega), H9.out.2.2.2.2.1.kept hk11 (fun k e => by have h2 := HZ9.out; omega), hz11⟩
        clear hk11 HR1 hz11 hs9 H9
        go_wp2_with fail
        refine (refNewG _ (turnL bs) _ H11.out.1 (by rw [HTL.out]; omega)).mono ?_
        rintro e w12 ⟨d2, vd2, rfl, iq, gq, fq, bq⟩
        have HR2 : Hid _ := reads_step true a os cap HS.out.2.2.1 HS.out.2.2.2 hg0 H11.out.2.1 H11.out.2.2.2.1 (by have := HZ9.out; omega) H11.out.2.2.2.2 bq iq gq fq (turnL_byts HS.out.2.1)
        clear iq gq fq bq
        go_wp2_with fail
        refine Calls.mono HR2.out ?_
        rintro e w13 ⟨rfl, hk13⟩
        have H13 : Hid (Below w.heap.size w w13 ∧ Rdr s4 s5 w13 g2 v2 bs ∧ s9 ≤ w13.heap.size) :=
          ⟨H11.out.2.1.trans (hk13.below H11.out.2.1.size (fun k e => by have h2 := HZ9.out; omega)), H11.out.2.2.1.kept hk13 (fun k e => by have h2 := HZ9.out; omega), Nat.le_trans H11.out.2.2.2.2 hk13.size⟩
        clear hk13 HR2 H11
        go_wp2_with fail
        refine (refNewG _ bs _ (HS.out.1.below H13.out.1 (Nat.le_refl _)) (by omega)).mono ?_
        rintro e w14 ⟨d3, vd3, rfl, iq, gq, fq, bq⟩
        have HR3 : Hid _ := reads_step true a os cap HS.out.2.2.1 HS.out.2.2.2 hg0 H13.out.1 H13.out.2.1 (by have := HZ9.out; omega) (by have h1 := H13.out.2.2; have h2 := HZ9.out; omega) bq iq gq fq HS.out.2.1
        clear iq gq fq bq
        go_wp2_with fail
        refine Calls.mono HR3.out ?_
        rintro e w15 ⟨rfl, hk15⟩
        have H15 : Hid (Below w.heap.size w w15) := H13.out.1.trans (hk15.below H13.out.1.size (fun k e => by have h2 := HZ9.out; omega))
        clear hk15 HR3 H13
        go_wp2
        go_ret
        exact ⟨rfl, H15.out⟩

theorem packReads_walk2 (v u : Value) (bs : List Int) (os : List OpD) (w : World) (hb : Sees w v bs) (hbt : Byts bs) (hs : SeesOps w u os) (ht : Tab w) (hg0 : 1 < w.heap.size) :
    Calls Tryz.prog 3 #[v, u] w fun e w' => e = .returned (.bool true) ∧ Below w.heap.size w w' := by
  obtain ⟨ab, cb, rfl, hb'⟩ := hb
  obtain ⟨a, cap, rfl, hs'⟩ := hs
  exact packReads_walk ab bs cb a os cap w ⟨ab, cb, rfl, hb'⟩ hbt ⟨a, cap, rfl, hs'⟩ ht hg0
end Rz
end Go.Proofs.YtblgipjipeaemaaGreatDoor
