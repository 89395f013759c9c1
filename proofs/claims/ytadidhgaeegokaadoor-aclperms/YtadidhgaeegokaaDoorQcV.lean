/- What the document's ParsePerms answers. -/
import Derived.Test.YtadidhgaeegokaaDoorQcU
namespace Go.Proofs.YtadidhgaeegokaaDoor
open Go.RowKit Go.Shelf
set_option maxRecDepth 8000

/-- A text has just the letters of a form, each once. -/
def mat (f l : Bs) : Bool := decide (f.length = l.length) && f.all fun c => l.count c == 1

theorem mat_iff {f l : Bs} : mat f l = true ↔ f.length = l.length ∧ ∀ j, j < f.length → l.count (f.getD j 0) = 1 := by
  unfold mat
  rw [Bool.and_eq_true, decide_eq_true_eq, List.all_eq_true]
  simp only [beq_iff_eq]
  constructor
  · rintro ⟨h1, h2⟩
    refine ⟨h1, fun j hj => h2 _ ?_⟩
    rw [List.getD_eq_getElem?_getD, List.getElem?_eq_getElem hj]
    exact List.getElem_mem hj
  · rintro ⟨h1, h2⟩
    refine ⟨h1, fun c hc => ?_⟩
    obtain ⟨j, hj, rfl⟩ := List.getElem_of_mem hc
    have := h2 j hj
    rw [List.getD_eq_getElem?_getD, List.getElem?_eq_getElem hj] at this
    exact this

/-- The first number from k on whose form it is. -/
def firstM (l : Bs) : Nat → Nat → Option Nat
  | 0, _ => none
  | n + 1, k => if mat (permL k) l = true then some k else firstM l n (k + 1)

/-- What the document's ParsePerms answers. -/
def rpV (l : Bs) : Value := if 5 < l.length then .tuple #[.int .i8 0, .int .i64 60] else match firstM l 32 0 with
  | some n => .tuple #[.int .i8 (n : Int), .int .i64 0]
  | none => .tuple #[.int .i8 0, .int .i64 60]

theorem firstM_skip (l : Bs) : ∀ (q n k : Nat), (∀ j, j < q → mat (permL (k + j)) l = false) → firstM l (q + n) k = firstM l n (k + q)
  | 0, n, k, _ => by rw [Nat.zero_add, Nat.add_zero]
  | q + 1, n, k, h => by
    rw [show q + 1 + n = (q + n) + 1 by omega, firstM, if_neg (by rw [show mat (permL k) l = false from h 0 (by omega)]; decide), firstM_skip l q n (k + 1) (fun j hj => by
      have := h (j + 1) (by omega)
      rw [show k + (j + 1) = k + 1 + j by omega] at this
      exact this)]
    rw [show k + 1 + q = k + (q + 1) by omega]

theorem permL_len : ∀ n : Fin 32, (permL n.1).length ≤ 5 := by decide +kernel

theorem count_step {l : Bs} {k : Nat} (h : k < l.length) (c : UInt8) : (l.take (k + 1)).count c = (l.take k).count c + (if l.getD k 0 = c then 1 else 0) := by
  rw [List.take_add_one, List.getElem?_eq_getElem h, List.count_append, List.getD_eq_getElem?_getD, List.getElem?_eq_getElem h]
  simp only [Option.toList, Option.getD_some]
  by_cases e : l[k] = c
  · rw [if_pos e, e]; simp
  · rw [if_neg e, List.count_cons]; simp [e]

theorem drewN_add {w v : World} (h : ∃ m, v = w.drewN m) (b : Nat) : ∃ m, v.drewN b = w.drewN m := by
  obtain ⟨m, rfl⟩ := h
  exact ⟨m + b, World.drewN_drewN _ _ _⟩

set_option maxHeartbeats 4000000 in
theorem refParse_any (s : ByteArray) (w : World) (hs : s.size ≤ 4294967296) :
    Calls Tryd.prog 12 #[.string s] w fun e w' => e = .returned (rpV s.data.toList) ∧ ∃ m, w' = w.drewN m := by
  have hz := size_list s
  obtain ⟨val, hval⟩ : ∃ val, val = rpV s.data.toList := ⟨_, rfl⟩
  rw [← hval]
  by_cases h5 : 5 < s.size
  · have HX : Hid (val = .tuple #[.int .i8 0, .int .i64 60]) := by show _ = _; rw [hval]; unfold rpV; rw [if_pos (by omega)]
    clear hval hz
    have d0 : decide (5 < (s.size : Int)) = true := by simp; omega
    go_enter Tryd.func12, Tryd.ntmps12
    go_wp2
    go_ret2
    exact ⟨by rw [HX.out]; rfl, 0, rfl⟩
  have HV : Hid (val = match firstM s.data.toList 32 0 with | some n => .tuple #[.int .i8 (n : Int), .int .i64 0] | none => .tuple #[.int .i8 0, .int .i64 60]) := by
    show _ = _; rw [hval]; unfold rpV; rw [if_neg (by omega)]
  have HZ : Hid (s.size = s.data.toList.length) := hz
  have d0 : decide (5 < (s.size : Int)) = false := by simp; omega
  clear hval hz
  go_enter Tryd.func12, Tryd.ntmps12
  go_wp2
  go_loopw [4] (fun vp wr => ∃ q : Nat, q ≤ 32 ∧ vp = .int .i8 (q : Int) ∧ Hid (∀ j, j < q → mat (permL j) s.data.toList = false) ∧ Hid (∃ m, wr = w.drewN m)) (fun vp _ => 32 - (intOf vp).toNat)
  case atStart => exact ⟨0, by omega, rfl, fun j hj => by omega, 0, rfl⟩
  case round =>
    obtain ⟨q, hq, rfl, HN, HW⟩ := hrel
    by_cases hlt : q < 32
    · have d1 : decide ((q : Int) < 32) = true := by simp; omega
      have HPm := perms_any (q : Int) wr
      have hform : permV (q : Int) = .tuple #[.string ⟨(permL q).toArray⟩, .int .i64 0] := by unfold permV; rw [if_neg (by omega)]; rfl
      rw [hform] at HPm
      have hfl : (permL q).length ≤ 5 := permL_len ⟨q, hlt⟩
      have HM : Hid (mat (permL q) s.data.toList = true → val = .tuple #[.int .i8 (q : Int), .int .i64 0]) := by
        intro hm
        rw [HV.out, show (32 : Nat) = q + ((31 - q) + 1) by omega, firstM_skip _ q _ 0 (fun j hj => by rw [Nat.zero_add]; exact HN.out j hj), Nat.zero_add, firstM, if_pos hm]
      obtain ⟨F, hF⟩ : ∃ F : ByteArray, F = ⟨(permL q).toArray⟩ := ⟨_, rfl⟩
      have hFl : F.data.toList = permL q := by rw [hF]
      rw [← hF] at HPm
      have hFz : F.size = (permL q).length := by rw [size_list, hFl]
      have hF5 : F.size ≤ 5 := by omega
      have HF : Hid (F.data.toList = permL q ∧ F.size = (permL q).length) := ⟨hFl, hFz⟩
      clear hform hF hFl hFz hfl
      go_wp2_with fail
      go_at_call 10
      refine HPm.mono ?_
      rintro e w1 ⟨rfl, rfl⟩
      clear HPm
      have HE : Hid (((F.size : Int) == (s.size : Int)) = decide (F.size = s.size)) := by
        show _ = _
        rw [Bool.eq_iff_iff, beq_iff_eq, decide_eq_true_eq]; omega
      obtain ⟨wo, hwo⟩ : ∃ wo, wo = w1 := ⟨_, rfl⟩
      subst hwo
      go_wp2
      go_loopw [7, 8] (fun vs vi wr => ∃ (i : Nat) (sb : Bool), i ≤ F.size ∧ vs = .bool sb ∧ vi = .int .i64 (i : Int) ∧ Hid (sb = true → F.size = s.size ∧ ∀ j, j < i → s.data.toList.count (F.data.toList.getD j 0) = 1) ∧ Hid (sb = false → mat (permL q) s.data.toList = false) ∧ Hid (∃ m, wr = w.drewN m)) (fun _ vi _ => F.size - (intOf vi).toNat)
      case atStart =>
        refine ⟨0, decide (F.size = s.size), Nat.zero_le _, by rw [← HE.out], rfl, fun h => ⟨of_decide_eq_true h, fun j hj => by omega⟩, fun h => ?_, HW.out⟩
        have := of_decide_eq_false h
        cases hm : mat (permL q) s.data.toList
        · rfl
        · exact absurd (mat_iff.1 hm).1 (by rw [← HF.out.2, ← HZ.out]; exact this)
      case round =>
        obtain ⟨i, sb, hi, rfl, rfl, HT, HG, HW2⟩ := hrel
        obtain ⟨wm, hwm⟩ : ∃ wm, wm = wr := ⟨_, rfl⟩
        subst hwm
        clear HE HW
        by_cases hiF : i < F.size
        · have d2 : decide ((i : Int) < (F.size : Int)) = true := by simp; omega
          cases sb
          · have HG2 : Hid (mat (permL q) s.data.toList = false) := HG.out rfl
            clear HG HT
            go_wp2
            go_roundw
            case rel => exact ⟨q + 1, by omega, by go_num, fun j hj => by
              by_cases hjq : j < q
              · exact HN.out j hjq
              · obtain rfl : j = q := by omega
                exact HG2.out, HW2.out⟩
            case measure => simp [intOf]; omega
          · have HT2 : Hid (F.size = s.size ∧ ∀ j, j < i → s.data.toList.count (F.data.toList.getD j 0) = 1) := HT.out rfl
            clear HT HG
            go_wp2
            go_loopw [9, 10] (fun vn vk wr => ∃ k : Nat, k ≤ s.size ∧ vk = .int .i64 (k : Int) ∧ vn = .int .i64 (((s.data.toList.take k).count (F.data.toList.getD i 0) : Nat) : Int) ∧ Hid (∃ m, wr = w.drewN m)) (fun _ vk _ => s.size - (intOf vk).toNat)
            case atStart => exact ⟨0, Nat.zero_le _, rfl, rfl, HW2.out⟩
            case round =>
              obtain ⟨k, hk, rfl, rfl, HW3⟩ := hrel
              by_cases hks : k < s.size
              · have d3 : decide ((k : Int) < (s.size : Int)) = true := by simp; omega
                have b1 := byteAt s k hks
                have b2 := byteAt F i hiF
                have HC : Hid _ := count_step (l := s.data.toList) (k := k) (by have := HZ.out; omega) (F.data.toList.getD i 0)
                have hcl : (s.data.toList.take k).count (F.data.toList.getD i 0) ≤ k := Nat.le_trans List.count_le_length (by rw [List.length_take]; omega)
                by_cases he : s.data.toList.getD k 0 = F.data.toList.getD i 0
                · have hq2 : ((s[k].toNat : Int) == (F[i].toNat : Int)) = true := by rw [b1, b2, he]; simp
                  rw [if_pos he] at HC
                  generalize (s.data.toList.take k).count (F.data.toList.getD i 0) = cc at *
                  clear b1 b2 he
                  go_wp2
                  go_quiet (fail)
                  go_wp2
                  go_roundw
                  case rel => exact ⟨k + 1, by omega, by go_num, by rw [HC.out]; go_num, drewN_add HW3.out _⟩
                  case measure => simp [intOf]; omega
                · have hq2 : ((s[k].toNat : Int) == (F[i].toNat : Int)) = false := by
                    rw [b1, b2, beq_eq_false_iff_ne]
                    intro h
                    exact he (UInt8.toNat_inj.1 (by omega))
                  rw [if_neg he, Nat.add_zero] at HC
                  generalize (s.data.toList.take k).count (F.data.toList.getD i 0) = cc at *
                  clear b1 b2 he
                  go_wp2
                  go_quiet (fail)
                  go_wp2
                  go_roundw
                  case rel => exact ⟨k + 1, by omega, by go_num, by rw [HC.out]; rfl, drewN_add HW3.out _⟩
                  case measure => simp [intOf]; omega
              · have d3 : decide ((k : Int) < (s.size : Int)) = false := by simp; omega
                have hall : s.data.toList.take k = s.data.toList := List.take_of_length_le (by have := HZ.out; omega)
                rw [hall]
                have HE2 : Hid ((((s.data.toList.count (F.data.toList.getD i 0) : Nat) : Int) == 1) = decide (s.data.toList.count (F.data.toList.getD i 0) = 1)) := by
                  show _ = _
                  rw [Bool.eq_iff_iff, beq_iff_eq, decide_eq_true_eq]; omega
                clear hall
                obtain ⟨cc, hcc⟩ : ∃ cc, cc = s.data.toList.count (F.data.toList.getD i 0) := ⟨_, rfl⟩
                rw [← hcc] at HE2 ⊢
                have HCC : Hid (cc = s.data.toList.count (F.data.toList.getD i 0)) := hcc
                clear hcc
                go_wp2
                go_roundw
                case rel =>
                  refine ⟨i + 1, decide (cc = 1), by omega, by rw [HE2.out], by go_num, fun h => ⟨HT2.out.1, fun j hj => ?_⟩, fun h => ?_, HW3.out⟩
                  · by_cases hji : j < i
                    · exact HT2.out.2 j hji
                    · obtain rfl : j = i := by omega
                      rw [← HCC.out]
                      exact of_decide_eq_true h
                  · have h1 := of_decide_eq_false h
                    cases hm : mat (permL q) s.data.toList
                    · rfl
                    · refine absurd ((mat_iff.1 hm).2 i (by rw [← HF.out.2]; exact hiF)) ?_
                      rw [← HF.out.1, ← HCC.out]
                      exact h1
                case measure => simp [intOf]; omega
        · have d2 : decide ((i : Int) < (F.size : Int)) = false := by simp; omega
          cases sb
          · have HG2 : Hid (mat (permL q) s.data.toList = false) := HG.out rfl
            clear HG HT
            go_wp2
            go_roundw
            case rel => exact ⟨q + 1, by omega, by go_num, fun j hj => by
              by_cases hjq : j < q
              · exact HN.out j hjq
              · obtain rfl : j = q := by omega
                exact HG2.out, HW2.out⟩
            case measure => simp [intOf]; omega
          · have HX : Hid (val = .tuple #[.int .i8 (q : Int), .int .i64 0]) := by
              refine HM.out (mat_iff.2 ⟨by rw [← HF.out.2, (HT.out rfl).1, HZ.out], fun j hj => ?_⟩)
              have := (HT.out rfl).2 j (by rw [← HF.out.2] at hj; omega)
              rw [HF.out.1] at this
              exact this
            clear HG HT HM
            go_wp2
            go_ret2
            exact ⟨by rw [HX.out]; rfl, HW2.out⟩
    · have d1 : decide ((q : Int) < 32) = false := by simp; omega
      have HX : Hid (val = .tuple #[.int .i8 0, .int .i64 60]) := by
        show _ = _
        rw [HV.out, show (32 : Nat) = q + 0 by omega, firstM_skip _ q _ 0 (fun j hj => by rw [Nat.zero_add]; exact HN.out j hj)]
        rfl
      clear HV HN
      go_wp2
      go_ret2
      exact ⟨by rw [HX.out]; rfl, HW.out⟩

end Go.Proofs.YtadidhgaeegokaaDoor
