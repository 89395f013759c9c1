/- The document's lists of files: with. -/
import Derived.Test.YtbdokdhconhifaaGreatDoorRdIJ
import Derived.Deep.QuietTactic
import Derived.BigQuiet
namespace Go.Proofs.YtbdokdhconhifaaGreatDoor
open Go.RowKit Go.Shelf
set_option maxRecDepth 8000

theorem notless_of_cmp : ∀ (a b : List UInt8), 0 ≤ Lib.compareBytes a b → Op.bytesLess a b = false
  | [], [], _ => rfl
  | [], _ :: _, h => by simp [Lib.compareBytes] at h
  | _ :: _, [], _ => rfl
  | a :: x, b :: y, h => by
    unfold Lib.compareBytes at h
    unfold Op.bytesLess
    by_cases h1 : a < b
    · rw [if_pos h1] at h; simp at h
    · rw [if_neg h1] at h
      by_cases h2 : b < a
      · have : a ≠ b := fun e => by rw [e] at h2; exact absurd h2 (by simp)
        simp [h1, this]
      · rw [if_neg h2] at h
        simp [h1, notless_of_cmp x y h]

theorem notless_name {a b : ByteArray} (h : 0 ≤ ncmp a b) : Op.bytesLess a.toList b.toList = false := by
  rw [ByteArray.toList_eq, ByteArray.toList_eq]
  exact notless_of_cmp _ _ h

/-- A file is placed ahead of the first that has a greater name. -/
theorem less_pl {fs : List FiD} (hr : Rise fs) (n : ByteArray) (hno : hasF fs n = false) (k : Nat) (hk : k < fs.length) : Op.bytesLess n.toList fs[k].name.toList = decide (pl fs n ≤ k) := by
  by_cases hp : k < pl fs n
  · have h1 := (pl_iff hr n k hk).2 hp
    have h2 : 0 ≤ ncmp n fs[k].name := by
      have := cmpB_flip n.data.toList fs[k].name.data.toList
      show 0 ≤ Lib.compareBytes _ _
      rw [this]
      have h1' : Lib.compareBytes fs[k].name.data.toList n.data.toList < 0 := h1
      omega
    rw [notless_name h2, decide_eq_false (by omega)]
  · have h1 : ¬ ncmp fs[k].name n < 0 := fun e => hp ((pl_iff hr n k hk).1 e)
    have h0 : ncmp fs[k].name n ≠ 0 := fun e => by
      have h3 := (ncmp_eq _ _).1 e
      have := (hasF_mem hr n).2 ⟨_, List.getElem_mem hk, h3⟩
      rw [hno] at this
      cases this
    have h2 : ncmp n fs[k].name < 0 := by
      have := cmpB_flip n.data.toList fs[k].name.data.toList
      show Lib.compareBytes _ _ < 0
      rw [this]
      have h1' : ¬ Lib.compareBytes fs[k].name.data.toList n.data.toList < 0 := h1
      have h0' : Lib.compareBytes fs[k].name.data.toList n.data.toList ≠ 0 := h0
      omega
    rw [less_name h2, decide_eq_true (by omega)]

theorem new_cell3 (w : World) (a b c : Value) (t : TypeId) : ∀ j u, [a, b, c][j]? = some u → (w.alloc (.cells #[a, b, c] t)).cell? ((⟨w.heap.size, 0, none⟩ : Addr).add j) = some u := by
  intro j u hj
  rw [addrAddR, Nat.zero_add, cell_of_row _ _ _ _ _ _ (heap_alloc_new _ _), ← hj]
  simp

theorem one_cell3 (n : ByteArray) (x : Option Addr) (l y : Nat) (d : Int) : ∀ u ∈ ([.string n, .slice x l y, .int .i64 d] : List Value), u.oneCell' = true := by
  intro u hu
  simp only [List.mem_cons, List.not_mem_nil, or_false] at hu
  rcases hu with rfl | rfl | rfl <;> rfl

/-- The files so far, the new one placed. -/
def insK (z : List (FiD × Value)) (P : Nat) (a : FiD × Value) (k : Nat) : List (FiD × Value) := if k ≤ P then z.take k else z.take P ++ a :: (z.take k).drop P
def insZ (z : List (FiD × Value)) (P : Nat) (a : FiD × Value) : List (FiD × Value) := z.take P ++ a :: z.drop P

theorem insK_ahead {z : List (FiD × Value)} {P : Nat} (a : FiD × Value) {k : Nat} (h : k < P) (hk : k < z.length) : insK z P a (k + 1) = insK z P a k ++ [z[k]] := by
  unfold insK
  rw [if_pos (by omega), if_pos (by omega), List.take_succ_eq_append_getElem hk]
theorem insK_at {z : List (FiD × Value)} {P : Nat} (a : FiD × Value) (hk : P < z.length) : insK z P a (P + 1) = (insK z P a P ++ [a]) ++ [z[P]] := by
  have e : (z.take (P + 1)).drop P = [z[P]] := by
    rw [List.take_succ_eq_append_getElem hk, List.drop_append_of_le_length (by rw [List.length_take]; omega), List.drop_of_length_le (by rw [List.length_take]; omega)]
    rfl
  unfold insK
  rw [if_neg (by omega), if_pos (Nat.le_refl _), e]
  simp
theorem insK_behind {z : List (FiD × Value)} {P : Nat} (a : FiD × Value) {k : Nat} (h : P < k) (hk : k < z.length) : insK z P a (k + 1) = insK z P a k ++ [z[k]] := by
  unfold insK
  rw [if_neg (by omega), if_neg (by omega), List.take_succ_eq_append_getElem hk, List.drop_append_of_le_length (by rw [List.length_take]; omega)]
  simp
theorem insK_end {z : List (FiD × Value)} {P : Nat} (a : FiD × Value) (h : P ≤ z.length) : insZ z P a = if P < z.length then insK z P a z.length else insK z P a z.length ++ [a] := by
  unfold insK insZ
  by_cases hp : P < z.length
  · rw [if_pos hp, if_neg (by omega), List.take_length]
  · have e : P = z.length := by omega
    rw [if_neg hp, if_pos (by omega), e, List.take_length, List.drop_length]
theorem insK_len {z : List (FiD × Value)} {P : Nat} (a : FiD × Value) (k : Nat) : (insK z P a k).length ≤ z.length + 1 := by
  unfold insK
  split
  · rw [List.length_take]; omega
  · simp
    omega

theorem Below.baseZ {w V wr : World} {v : Value} {z : List (FiD × Value)} (h : OutZ V wr v z) (hb : Below w.heap.size w V) : OutZ w wr v z := by
  refine ⟨?_, hb.trans (h.bel.mono hb.size)⟩
  obtain ⟨h1, h2⟩ := h.own
  refine ⟨h1, ?_⟩
  rcases h2 with h2 | ⟨g, cap, cur, e, h3, h4⟩
  · exact .inl h2
  · exact .inr ⟨g, cap, cur, e, Nat.le_trans hb.size h3, h4⟩

theorem OutZ.drewN {V wr : World} {v : Value} {z : List (FiD × Value)} (h : OutZ V wr v z) (n : Nat) : OutZ V (wr.drewN n) v z := ⟨h.own, below_drewN h.bel n⟩

set_option maxHeartbeats 2000000 in
theorem refWith_any {w : World} {B : Nat} {v : Value} {fs : List FiD} {vs : List Value} (h : ImgAt w B v fs vs) (hr : Rise fs) (hfew : fs.length ≤ 64) (f : FiD) (x : Option Addr) (l y : Nat) (hno : hasF fs f.name = false) :
    Calls Tryz.prog 27 #[v, .agg #[.string f.name, .slice x l y, .int .i64 f.dur]] w fun e w' => ∃ v', e = .returned v' ∧ OutZ w w' v' (insZ (fs.zip vs) (pl fs f.name) (f, .slice x l y)) := by
  obtain ⟨fa, fc, rfl, hfc, hfm⟩ := img_shape h
  obtain ⟨N, hN⟩ : ∃ N, N = fs.length := ⟨_, rfl⟩
  have hzl : (fs.zip vs).length = N := by rw [List.length_zip, h.len, hN]; omega
  obtain ⟨z, hz⟩ : ∃ z, z = fs.zip vs := ⟨_, rfl⟩
  obtain ⟨P, hP⟩ : ∃ P, P = pl fs f.name := ⟨_, rfl⟩
  have hPN : P ≤ N := by rw [hP, hN]; exact pl_le _ _
  have HL : Hid (∀ k (hk : k < fs.length), Op.bytesLess f.name.toList fs[k].name.toList = decide (P ≤ k)) := fun k hk => by rw [hP]; exact less_pl hr f.name hno k hk
  obtain ⟨V, eV⟩ : ∃ V, V = w.alloc (.cells #[.string f.name, .slice x l y, .int .i64 f.dur] 71) := ⟨_, rfl⟩
  have hbV : Below w.heap.size w V := by rw [eV]; exact one_allocK _ _
  have hrow : V.heap[w.heap.size]? = some (.cells #[.string f.name, .slice x l y, .int .i64 f.dur] 71 (0, 0)) := by rw [eV]; exact heap_alloc_new w _
  have hszV : w.heap.size < V.heap.size := lt_of_block hrow
  have HH : Hid (ImgAt V B (.slice fa fs.length fc) fs vs) := h.kept (Below.kept hbV) (fun j e => .inr e)
  have HBV : Hid _ := hbV
  rw [← hN] at hfew hfc HH ⊢
  rw [← hz, ← hP]
  have HZ : Hid _ := hz
  have HZL : Hid (z.length = N) := by rw [hz]; exact hzl
  have HN : Hid _ := hN
  have HE : Hid _ := eV
  obtain ⟨i0, hi, hz0, hz1, hz2⟩ := info_parts Tryz.infoFile
  obtain ⟨fnm, fbs, fdu⟩ := f
  simp only at hrow HL ⊢
  obtain ⟨A, hA⟩ : ∃ A : FiD × Value, A = (⟨fnm, fbs, fdu⟩, .slice x l y) := ⟨_, rfl⟩
  have HA : Hid _ := hA
  have HAZ : Hid (∀ q, zC (q ++ [A]) = zC q ++ [.string fnm, .slice x l y, .int .i64 fdu]) := fun q => by rw [hA, zC_snoc]
  rw [← hA]
  have HROW : Hid _ := hrow
  clear h hN hz hzl hr hno hbV eV hA hrow hP
  go_enter Tryz.func27, Tryz.ntmps27
  go_wp2_with fail
  go_loopw [5, 6, 7] (fun vo vp vi wr => ∃ k : Nat, k ≤ N ∧ vi = .int .i64 k ∧ vp = .bool (decide (P < k)) ∧ Hid (OutZ V wr vo (insK z P A k))) (fun _ _ vi _ => N - (intOf vi).toNat)
  case atStart =>
    refine ⟨0, Nat.zero_le _, rfl, by rw [decide_eq_false (by omega)], ?_⟩
    show OutZ _ _ _ _
    rw [← HE.out]
    exact ⟨World.ownsRow_nil _ _ _ _, Below.refl _ _⟩
  case round =>
    obtain ⟨k, hk, rfl, rfl, HO⟩ := hrel
    have hbr : wr.heap[w.heap.size]? = some (.cells #[.string fnm, .slice x l y, .int .i64 fdu] 71 (0, 0)) := (Below.kept HO.out.bel).heap HROW.out (fun e => by omega)
    have b0 : wr.cell? ⟨w.heap.size, 0, none⟩ = some (.string fnm) := cell_of_row wr _ 0 _ _ _ hbr
    have b1 : wr.cell? ⟨w.heap.size, 1, none⟩ = some (.slice x l y) := cell_of_row wr _ 1 _ _ _ hbr
    have b2 : wr.cell? ⟨w.heap.size, 2, none⟩ = some (.int .i64 fdu) := cell_of_row wr _ 2 _ _ _ hbr
    have hlb := lt_of_block hbr
    have hlk := insK_len (z := z) (P := P) A k
    rw [HZL.out] at hlk
    have hsz := HO.out.bel.size
    clear hbr
    by_cases hlt : k < N
    · have hlt1 : k < fs.length := by rw [← HN.out]; exact hlt
      obtain ⟨g, c, u, e, hzk, a0, a1, a2, ho⟩ := img_at HH.out HO.out.bel k hlt1
      obtain ⟨rfl, hNf, rfl⟩ := Value.slice.inj e
      clear hNf e
      obtain ⟨x1, y1, hu2, _⟩ := own_shape (owns_mono ho (Nat.zero_le _))
      have hzk' : k < z.length := by rw [HZL.out]; exact hlt
      rw [← HZ.out] at hzk
      have HZK : Hid (z[k] = (fs[k], u)) := by
        show _ = _
        rw [List.getElem?_eq_getElem hzk'] at hzk
        exact Option.some.inj hzk
      have hL := HL.out k hlt1
      clear hzk ho
      generalize fs[k] = f1 at *
      obtain ⟨nm1, bs1, du1⟩ := f1
      simp only at a0 a1 a2 hu2 hL
      subst hu2
      have HAZ1 : Hid (∀ q, zC (q ++ [z[k]]) = zC q ++ [.string nm1, .slice x1 bs1.length y1, .int .i64 du1]) := fun q => by rw [HZK.out, zC_snoc]
      clear HZK
      by_cases hkP : k ≤ P
      · rw [decide_eq_false (show ¬ P < k by omega)]
        by_cases hkP2 : k = P
        · subst hkP2
          rw [decide_eq_true (Nat.le_refl _)] at hL
          go_upto_region 6 with fail
          go_quiet (fail)
          have HOq : Hid (OutZ V (wr.drewN nq) u5 (insK z k A k)) := HO.out.drewN nq
          clear HO
          have HIN : Hid _ := insK_at A hzk'
          generalize insK z k A k = ys at *
          go_wp2_with (at_builtin; refine wpList_append_own_at _ rfl _ _ 22 rfl V.heap.size 71 i0 _ 3 48 Tryz.underlying22 hi hz0 hz1 hz2 rfl (by decide) u5 ys.length (zC ys) rfl (row_kept' HOq.out.own ((Kept.refl (wr.drewN nq) (fun _ => False)).alloc _) (fun _ _ h => h)) ⟨(wr.drewN nq).heap.size, 0, none⟩ 1 1 [.string fnm, .slice x l y, .int .i64 fdu] rfl rfl (new_cell3 (wr.drewN nq) _ _ _ _) (one_cell3 _ _ _ _ _) (by unfold maxLen; omega) (by omega) (by show V.heap.size ≤ (World.alloc (wr.drewN nq) _).heap.size; rw [World.size_alloc]; exact Nat.le_succ_of_le (by assumption)) ?_)
          intro v' w1 hown' hgrow _ _
          have HR : Hid (OutZ V w1 v' (ys ++ [A])) :=
            ⟨by rw [HAZ.out]; simpa using hown', (HOq.out.bel.alloc HOq.out.bel.size _).grown hgrow (by simp; omega) (fun k hk => (HOq.out.own.lt k hk).1)⟩
          have hz1' := HR.out.bel.size
          have hlk1 : (ys ++ [A]).length ≤ N + 2 := by simp; omega
          have hg : g < V.heap.size := (HH.out.own.lt g rfl).2
          have heq : w1.heap[g]? = wr.heap[g]? := by
            rw [HR.out.bel.block g hg]
            exact (HOq.out.bel.block g hg).symm
          have d0 : w1.cell? ⟨g, k * 3, none⟩ = some (.string nm1) := (World.cell?_of_block heq).trans a0
          have d1 : w1.cell? ⟨g, k * 3 + 1, none⟩ = some (.slice x1 bs1.length y1) := (World.cell?_of_block heq).trans a1
          have d2 : w1.cell? ⟨g, k * 3 + 2, none⟩ = some (.int .i64 du1) := (World.cell?_of_block heq).trans a2
          have hlg1 : g < w1.heap.size := Nat.lt_of_lt_of_le hg hz1'
          clear hown' hgrow HOq a0 a1 a2 b0 b1 b2 heq
          go_wp2_with (at_builtin; refine wpList_append_own_at _ rfl _ _ 22 rfl V.heap.size 71 i0 _ 3 48 Tryz.underlying22 hi hz0 hz1 hz2 rfl (by decide) v' (ys ++ [A]).length (zC (ys ++ [A])) rfl (row_kept' HR.out.own ((Kept.refl w1 (fun _ => False)).alloc _) (fun _ _ h => h)) ⟨w1.heap.size, 0, none⟩ 1 1 [.string nm1, .slice x1 bs1.length y1, .int .i64 du1] rfl rfl (new_cell3 w1 _ _ _ _) (one_cell3 _ _ _ _ _) (by unfold maxLen; omega) (by omega) (by show V.heap.size ≤ (World.alloc w1 _).heap.size; rw [World.size_alloc]; exact Nat.le_succ_of_le (by assumption)) ?_)
          intro v2 w2 hown' hgrow _ _
          have HR2 : Hid (OutZ V w2 v2 ((ys ++ [A]) ++ [z[k]])) :=
            ⟨by rw [HAZ1.out]; simpa using hown', (HR.out.bel.alloc HR.out.bel.size _).grown hgrow (by simp; omega) (fun k hk => (HR.out.own.lt k hk).1)⟩
          clear hown' hgrow d0 d1 d2
          go_wp2
          go_roundw
          case rel => exact ⟨k + 1, by omega, by go_num, by rw [decide_eq_true (by omega)], by rw [HIN.out]; exact HR2⟩
          case measure => simp [intOf]; omega
        · rw [decide_eq_false (show ¬ P ≤ k by omega)] at hL
          go_upto_region 6 with fail
          go_quiet (fail)
          have HOq : Hid (OutZ V (wr.drewN nq) u5 (insK z P A k)) := HO.out.drewN nq
          clear HO
          have HIN : Hid _ := insK_ahead A (show k < P by omega) hzk'
          generalize insK z P A k = ys at *
          go_wp2_with (at_builtin; refine wpList_append_own_at _ rfl _ _ 22 rfl V.heap.size 71 i0 _ 3 48 Tryz.underlying22 hi hz0 hz1 hz2 rfl (by decide) u5 ys.length (zC ys) rfl (row_kept' HOq.out.own ((Kept.refl (wr.drewN nq) (fun _ => False)).alloc _) (fun _ _ h => h)) ⟨(wr.drewN nq).heap.size, 0, none⟩ 1 1 [.string nm1, .slice x1 bs1.length y1, .int .i64 du1] rfl rfl (new_cell3 (wr.drewN nq) _ _ _ _) (one_cell3 _ _ _ _ _) (by unfold maxLen; omega) (by omega) (by show V.heap.size ≤ (World.alloc (wr.drewN nq) _).heap.size; rw [World.size_alloc]; exact Nat.le_succ_of_le (by assumption)) ?_)
          intro v' w1 hown' hgrow _ _
          have HR : Hid (OutZ V w1 v' (ys ++ [z[k]])) :=
            ⟨by rw [HAZ1.out]; simpa using hown', (HOq.out.bel.alloc HOq.out.bel.size _).grown hgrow (by simp; omega) (fun k hk => (HOq.out.own.lt k hk).1)⟩
          clear hown' hgrow HOq a0 a1 a2 b0 b1 b2
          go_wp2
          go_roundw
          case rel => exact ⟨k + 1, by omega, by go_num, by rw [decide_eq_false (by omega)], by rw [HIN.out]; exact HR⟩
          case measure => simp [intOf]; omega
      · rw [decide_eq_true (show P < k by omega)]
        go_upto_region 6 with fail
        go_quiet (fail)
        have HOq : Hid (OutZ V (wr.drewN nq) u5 (insK z P A k)) := HO.out.drewN nq
        clear HO
        have HIN : Hid _ := insK_behind A (show P < k by omega) hzk'
        generalize insK z P A k = ys at *
        go_wp2_with (at_builtin; refine wpList_append_own_at _ rfl _ _ 22 rfl V.heap.size 71 i0 _ 3 48 Tryz.underlying22 hi hz0 hz1 hz2 rfl (by decide) u5 ys.length (zC ys) rfl (row_kept' HOq.out.own ((Kept.refl (wr.drewN nq) (fun _ => False)).alloc _) (fun _ _ h => h)) ⟨(wr.drewN nq).heap.size, 0, none⟩ 1 1 [.string nm1, .slice x1 bs1.length y1, .int .i64 du1] rfl rfl (new_cell3 (wr.drewN nq) _ _ _ _) (one_cell3 _ _ _ _ _) (by unfold maxLen; omega) (by omega) (by show V.heap.size ≤ (World.alloc (wr.drewN nq) _).heap.size; rw [World.size_alloc]; exact Nat.le_succ_of_le (by assumption)) ?_)
        intro v' w1 hown' hgrow _ _
        have HR : Hid (OutZ V w1 v' (ys ++ [z[k]])) :=
          ⟨by rw [HAZ1.out]; simpa using hown', (HOq.out.bel.alloc HOq.out.bel.size _).grown hgrow (by simp; omega) (fun k hk => (HOq.out.own.lt k hk).1)⟩
        clear hown' hgrow HOq a0 a1 a2 b0 b1 b2
        go_wp2
        go_roundw
        case rel => exact ⟨k + 1, by omega, by go_num, by rw [decide_eq_true (by omega)], by rw [HIN.out]; exact HR⟩
        case measure => simp [intOf]; omega
    · obtain rfl : k = N := by omega
      have HEN : Hid _ := insK_end (z := z) (P := P) A (by rw [HZL.out]; exact hPN)
      rw [HZL.out] at HEN
      by_cases hPk : P < k
      · rw [if_pos hPk] at HEN
        rw [decide_eq_true hPk]
        go_wp2_with fail
        go_ret
        exact ⟨_, rfl, by rw [HEN.out]; exact Below.baseZ HO.out HBV.out⟩
      · rw [if_neg hPk] at HEN
        rw [decide_eq_false hPk]
        generalize insK z P A k = ys at *
        go_wp2_with (at_builtin; refine wpList_append_own_at _ rfl _ _ 22 rfl V.heap.size 71 i0 _ 3 48 Tryz.underlying22 hi hz0 hz1 hz2 rfl (by decide) u5 ys.length (zC ys) rfl (row_kept' HO.out.own ((Kept.refl wr (fun _ => False)).alloc _) (fun _ _ h => h)) ⟨wr.heap.size, 0, none⟩ 1 1 [.string fnm, .slice x l y, .int .i64 fdu] rfl rfl (new_cell3 wr _ _ _ _) (one_cell3 _ _ _ _ _) (by unfold maxLen; omega) (by omega) (by show V.heap.size ≤ (World.alloc wr _).heap.size; rw [World.size_alloc]; exact Nat.le_succ_of_le (by assumption)) ?_)
        intro v' w1 hown' hgrow _ _
        have HR : Hid (OutZ V w1 v' (ys ++ [A])) :=
          ⟨by rw [HAZ.out]; simpa using hown', (HO.out.bel.alloc HO.out.bel.size _).grown hgrow (by simp; omega) (fun k hk => (HO.out.own.lt k hk).1)⟩
        clear hown' hgrow HO b0 b1 b2
        go_wp2_with fail
        go_ret
        exact ⟨_, rfl, by rw [HEN.out]; exact Below.baseZ HR.out HBV.out⟩
end Go.Proofs.YtbdokdhconhifaaGreatDoor
