/- The walk of QuorumRises. -/
import Derived.Test.YtlnoighjdmjdeaaQuJ
import Derived.Test.YtlnoighjdmjdeaaQuO
namespace Go.Proofs.Ytlnoighjdmjdeaa
open Go.RowKit Go.Shelf
set_option maxRecDepth 8000

/-- A system, an Acks of it, and a box with a zxid. -/
structure Rs (w W : World) (s p bw : Nat) (D : SyD) (A : AcD) (e m : Int) : Prop where
  sy : IsSy W s D
  ac : IsAc W p s A
  bx : W.heap[bw]? = some (.cells #[.int .u32 e, .int .u32 m] 38 (0, 0))
  be : Below w.heap.size w W
  lp : w.heap.size ≤ p
  lb : w.heap.size ≤ bw
  sp : s < p
  pb : p < bw
theorem Rs.later {w W W' : World} {s p bw : Nat} {D : SyD} {A : AcD} {e m : Int} (h : Rs w W s p bw D A e m) (hb : Below W.heap.size W W') : Rs w W' s p bw D A e m :=
  ⟨h.sy.below hb h.sy.lt, h.ac.below hb h.ac.lt, keepH hb h.bx, h.be.trans (hb.mono h.be.size), h.lp, h.lb, h.sp, h.pb⟩
theorem Rs.drew {w W : World} {s p bw : Nat} {D : SyD} {A : AcD} {e m : Int} (h : Rs w W s p bw D A e m) : Rs w W.drew s p bw D A e m :=
  ⟨h.sy, h.ac, h.bx, h.be.drew, h.lp, h.lb, h.sp, h.pb⟩
theorem Rs.put {w W W' : World} {s p bw : Nat} {D : SyD} {A B : AcD} {e m : Int} (h : Rs w W s p bw D A e m) (ha : IsAc W' p s B) (hk : Kept W.drew W' (fun k => k = p)) : Rs w W' s p bw D B e m :=
  have hs := h.sp
  have hp := h.pb
  ⟨IsSy.kept (w := W.drew) h.sy hk (by omega), ha, hk.heap h.bx (by omega), h.be.drew.trans (hk.below h.be.size (fun k q => by have := h.lp; omega)), h.lp, h.lb, h.sp, h.pb⟩
theorem Rs.set {w W : World} {s p bw : Nat} {D : SyD} {A : AcD} {e m : Int} (h : Rs w W s p bw D A e m) (f g : Int) : Rs w (W.setRow bw #[.int .u32 f, .int .u32 g]) s p bw D A f g :=
  have hk := set_row_kept W bw #[.int .u32 f, .int .u32 g]
  have hs := h.sp
  have hp := h.pb
  ⟨h.sy.kept hk (by omega), h.ac.kept hk (by omega), setRow_heap W _ _ _ _ _ h.bx, h.be.trans (hk.below h.be.size (fun k q => by have := h.lb; omega)), h.lp, h.lb, h.sp, h.pb⟩

theorem andn127 {S : Nat} (hS : S < 256) : bits .andNot .u8 127 (S : Int) = ((127 &&& (255 ^^^ S) : Nat) : Int) := by
  have h : ∀ S : Fin 256, bits .andNot .u8 127 ((S : Nat) : Int) = ((127 &&& (255 ^^^ (S : Nat)) : Nat) : Int) := by decide +kernel
  exact h ⟨S, hS⟩

/-- What the law asks of the sets, behind Committed. -/
theorem sets_right0 {A : AcD} {D : SyD} (hD : D.Good) {fo : Bool} {z y : Int} (hc : A.com D D.n = (fo, z, y)) :
    (fo = true → D.has (gN (fun i => A.isV D i && decide (0 ≤ zcmp (A.ofE D i) (A.ofM D i) z y)) 7).testBit = true ∧ D.has (gN (fun i => A.isV D i && decide (0 < zcmp (A.ofE D i) (A.ofM D i) z y)) 7).testBit = false ∧ D.has (127 &&& (255 ^^^ gN (fun i => A.isV D i && decide (0 ≤ zcmp (A.ofE D i) (A.ofM D i) z y)) 7)).testBit = false) ∧
    (fo = false → D.has (gN (fun i => A.isV D i) 7).testBit = false) := by
  have n7 := hD.n7
  have sp := A.com_spec D D.n
  have iv : ∀ i, i < D.n → A.isV D (i : Int) = A.so.testBit i := fun i hi => by
    unfold AcD.isV; rw [decide_eq_true (show (0 : Int) ≤ (i : Int) ∧ (i : Int) < D.n by omega), Int.toNat_natCast, Bool.true_and]
  have oe : ∀ i, i < D.n → A.so.testBit i = true → A.ofE D (i : Int) = A.e i ∧ A.ofM D (i : Int) = A.m i := fun i hi hs => by
    unfold AcD.ofE AcD.ofM; rw [iv i hi, hs, Int.toNat_natCast]; exact ⟨rfl, rfl⟩
  have fal : ∀ {x : Bool}, (x = true → False) → x = false := fun {x} h => by cases x with | true => exact (h rfl).elim | false => rfl
  refine ⟨fun hf => ?_, fun hf => ?_⟩
  · have h1 := (sp.2 (by rw [hc]; exact hf)).1
    rw [hc] at h1
    have e1 : D.has (gN (fun i => A.isV D i && decide (0 ≤ zcmp (A.ofE D i) (A.ofM D i) z y)) 7).testBit = true := by
      rw [← h1]
      refine D.has_congr fun i hi => ?_
      rw [gN_bit, A.frN_bit, decide_eq_true (show i < 7 by omega), decide_eq_true hi, Bool.true_and, Bool.true_and, iv i hi]
      unfold AcD.rea
      cases hs : A.so.testBit i with
      | false => rfl
      | true => rw [(oe i hi hs).1, (oe i hi hs).2]
    refine ⟨e1, fal fun q => ?_, fal fun q => ?_⟩
    · have := (AcD.com_up (A := A) hD _ (fun a b => ¬ zge z y a b) (fun a b c d n1 g1 g2 => n1 (zge_trans g2 g1)) (fun i hi => ?_) q).2
      · rw [hc] at this; exact this (zge_refl _ _)
      · rw [gN_bit, decide_eq_true (show i < 7 by omega), Bool.true_and, iv i hi, Bool.and_eq_true, decide_eq_true_iff]
        constructor
        · rintro ⟨a, b⟩
          rw [(oe i hi a).1, (oe i hi a).2] at b
          exact ⟨a, fun g => by rw [← zle_iff] at g; omega⟩
        · rintro ⟨a, b⟩
          rw [(oe i hi a).1, (oe i hi a).2]
          refine ⟨a, ?_⟩
          rw [← zle_iff] at b
          omega
    · obtain ⟨i, hi, a1, a2, _⟩ := D.meet hD e1 q
      rw [Nat.testBit_and, Nat.testBit_xor, a1, show (255 : Nat) = 2 ^ 8 - 1 from rfl, Nat.testBit_two_pow_sub_one, decide_eq_true (show i < 8 by omega)] at a2
      simp at a2
  · refine fal fun q => ?_
    have := (AcD.com_up (A := A) hD _ (fun _ _ => True) (fun _ _ _ _ _ _ => trivial) (fun i hi => ?_) q).1
    · rw [hc, hf] at this; cases this
    · rw [gN_bit, decide_eq_true (show i < 7 by omega), Bool.true_and, iv i hi]; simp

abbrev fAl (A : AcD) (D : SyD) (i : Nat) : Bool := A.isV D i
abbrev fSt (A : AcD) (D : SyD) (fo : Bool) (z y : Int) (i : Nat) : Bool := A.isV D i && (fo && decide (0 ≤ zcmp (A.ofE D i) (A.ofM D i) z y))
abbrev fAb (A : AcD) (D : SyD) (fo : Bool) (z y : Int) (i : Nat) : Bool := A.isV D i && (fo && decide (0 < zcmp (A.ofE D i) (A.ofM D i) z y))
theorem sets_right {A : AcD} {D : SyD} (hD : D.Good) {fo : Bool} {z y : Int} (hc : A.com D D.n = (fo, z, y)) :
    (fo = true → D.has (gN (fSt A D fo z y) 7).testBit = true ∧ D.has (gN (fAb A D fo z y) 7).testBit = false ∧ D.has (127 &&& (255 ^^^ gN (fSt A D fo z y) 7)).testBit = false) ∧
    (fo = false → D.has (gN (fAl A D) 7).testBit = false) := by
  have h := sets_right0 hD hc
  refine ⟨fun q => ?_, h.2⟩
  have := h.1 q
  subst q
  have e1 : fSt A D true z y = fun (i : Nat) => A.isV D i && decide (0 ≤ zcmp (A.ofE D i) (A.ofM D i) z y) := by funext i; unfold fSt; rw [Bool.true_and]
  have e2 : fAb A D true z y = fun (i : Nat) => A.isV D i && decide (0 < zcmp (A.ofE D i) (A.ofM D i) z y) := by funext i; unfold fAb; rw [Bool.true_and]
  rw [e1, e2]
  exact this
theorem gN_yes {f : Nat → Bool} {k : Nat} (h : f k = true) : gN f (k + 1) = gN f k ||| 2 ^ k := by show (if f k then _ else _) = _; rw [h]; rfl
theorem gN_no {f : Nat → Bool} {k : Nat} (h : f k = false) : gN f (k + 1) = gN f k := by show (if f k then _ else _) = _; rw [h]; rfl
theorem or_step {f : Nat → Bool} {k : Nat} (hk : k < 7) (h : f k = true) : bits .or .u8 (gN f k : Int) ((2 : Int) ^ k % 256) = (gN f (k + 1) : Int) := by
  rw [shl_bq (by omega), or_bq (gN_lt f (by omega)) (by omega), gN_yes h]

set_option maxHeartbeats 4000000 in
theorem rises_walk (vv vu vp : Value) (ws gs : List Int) (l : List PuT) (w : World) (hv : SeesQ w vv ws) (hu : SeesQ w vu gs) (hp : SeesPu w vp l) :
    Calls Try.prog 6 #[vv, vu, vp] w fun e w' => e = .returned (.bool true) ∧ Below w.heap.size w w' := by
  have HV : Hid (SeesQ w vv ws ∧ SeesQ w vu gs) := ⟨hv, hu⟩
  obtain ⟨av, cv, ev, l1, l2, x1⟩ := hv
  obtain ⟨au, cu, eu, l3, l4, x2⟩ := hu
  obtain ⟨ap, cp, ep, l5, hgood, hcells⟩ := hp
  subst ev eu ep
  have HGd : Hid (∀ s ∈ l, s.good) := hgood
  have HCl : Hid (l ≠ [] → ∃ b off, ap = some ⟨b, off, none⟩ ∧ ∀ i s, l[i]? = some s → ∀ j u, s.cells[j]? = some u → w.cell? ⟨b, off + i * 3 + j, none⟩ = some u) := hcells
  clear x1 x2 hgood hcells
  have HL := long20 (ws.length : Int)
  have HG := long20 (gs.length : Int)
  have HP := long20 (l.length : Int)
  by_cases q1 : (2147483647 : Int) ≤ (ws.length : Int)
  · simp only [decide_eq_true q1] at HL
    go_enter Try.func6, Try.ntmps6
    go_wp2_with fail
    refine Calls.mono (HL _) ?_
    rintro e w1 ⟨rfl, rfl⟩
    go_wp2
    all_goals (go_ret; exact ⟨rfl, Below.refl _ _⟩)
  simp only [decide_eq_false q1] at HL
  by_cases q2 : (2147483647 : Int) ≤ (gs.length : Int)
  · simp only [decide_eq_true q2] at HG
    go_enter Try.func6, Try.ntmps6
    go_wp2_with fail
    refine Calls.mono (HL _) ?_
    rintro e w1 ⟨rfl, rfl⟩
    go_wp2_with fail
    refine Calls.mono (HG _) ?_
    rintro e w1 ⟨rfl, rfl⟩
    go_wp2
    all_goals (go_ret; exact ⟨rfl, Below.refl _ _⟩)
  simp only [decide_eq_false q2] at HG
  by_cases q3 : (2147483647 : Int) ≤ (l.length : Int)
  · simp only [decide_eq_true q3] at HP
    go_enter Try.func6, Try.ntmps6
    go_wp2_with fail
    refine Calls.mono (HL _) ?_
    rintro e w1 ⟨rfl, rfl⟩
    go_wp2_with fail
    refine Calls.mono (HG _) ?_
    rintro e w1 ⟨rfl, rfl⟩
    go_wp2_with fail
    refine Calls.mono (HP _) ?_
    rintro e w1 ⟨rfl, rfl⟩
    go_wp2
    all_goals (go_ret; exact ⟨rfl, Below.refl _ _⟩)
  simp only [decide_eq_false q3] at HP
  go_enter Try.func6, Try.ntmps6
  go_wp2_with fail
  refine Calls.mono (HL _) ?_
  rintro e w1 ⟨rfl, hw1⟩
  rw [hw1]
  clear hw1 w1
  go_wp2_with fail
  refine Calls.mono (HG _) ?_
  rintro e w1 ⟨rfl, hw1⟩
  rw [hw1]
  clear hw1 w1
  go_wp2_with fail
  refine Calls.mono (HP _) ?_
  rintro e w1 ⟨rfl, hw1⟩
  rw [hw1]
  clear hw1 w1 HL HG HP
  go_wp2_with fail
  go_at_call 11
  refine (lives20 _).mono ?_
  rintro e w2 ⟨rfl, hb2⟩
  have HB2 : Hid (Below w.heap.size w w2) := hb2
  have HV2 : Hid (SeesQ w2 (.slice av ws.length cv) ws ∧ SeesQ w2 (.slice au gs.length cu) gs) := ⟨HV.out.1.below hb2, HV.out.2.below hb2⟩
  clear hb2 HV
  by_cases nok : ¬ NewOk ws gs
  · have HN : Hid (Calls Try.prog 9 #[.slice av ws.length cv, .slice au gs.length cu] w2 fun e w' => e = .returned (.tuple #[.pointer none, .int .i64 200]) ∧ Below w2.heap.size w2 w') := new_bad HV2.out.1 HV2.out.2 nok
    clear nok HV2
    go_wp2_with fail
    refine Calls.mono HN.out ?_
    rintro e w3 ⟨rfl, hb3⟩
    have HB3 : Hid (Below w.heap.size w w3) := HB2.out.trans (hb3.mono HB2.out.size)
    clear hb3 HN HB2
    go_wp2
    all_goals (go_ret; exact ⟨rfl, HB3.out⟩)
  have ok : NewOk ws gs := Classical.not_not.1 nok
  clear nok
  have HN : Hid (Calls Try.prog 9 #[.slice av ws.length cv, .slice au gs.length cu] w2 fun e w' => e = .returned (.tuple #[.pointer (some ⟨w2.heap.size, 0, none⟩), .int .i64 0]) ∧ IsSy w' w2.heap.size (syD ws gs) ∧ Below w2.heap.size w2 w') := new_good HV2.out.1 HV2.out.2 ok
  have HD : Hid (syD ws gs).Good := ok.good
  obtain ⟨s, hs⟩ : ∃ s, s = w2.heap.size := ⟨_, rfl⟩
  rw [← hs] at HN
  have HSs : Hid (s = w2.heap.size) := hs
  generalize syD ws gs = D at HN HD
  have hl31 : l.length < 2147483647 := by omega
  clear ok HV2 hs l1 l2 l3 l4 q1 q2 q3
  go_wp2_with fail
  refine Calls.mono HN.out ?_
  rintro e w3 ⟨rfl, hI, hb3⟩
  rw [HSs.out] at hb3
  have HB3 : Hid (Below w.heap.size w w3) := HB2.out.trans (hb3.mono HB2.out.size)
  have HI3 : Hid (IsSy w3 s D) := hI
  have HLs : Hid (w.heap.size ≤ s) := by show _ ≤ _; rw [HSs.out]; exact HB2.out.size
  clear hI hb3 HN HB2 HSs
  have HNA : Hid (Calls Try.prog 12 #[.pointer (some ⟨s, 0, none⟩)] w3 fun e w' => e = .returned (.tuple #[.pointer (some ⟨w3.heap.size, 0, none⟩), .int .i64 0]) ∧ IsAc w' w3.heap.size s ac0 ∧ Below w3.heap.size w3 w') := newAcks_yes HD.out HI3.out
  obtain ⟨p, hp⟩ : ∃ p, p = w3.heap.size := ⟨_, rfl⟩
  rw [← hp] at HNA
  have HPp : Hid (p = w3.heap.size) := hp
  clear hp
  go_wp2_with fail
  refine Calls.mono HNA.out ?_
  rintro e w4 ⟨rfl, hA, hb4⟩
  rw [HPp.out] at hb4
  obtain ⟨bw, hbw⟩ : ∃ bw, bw = w4.heap.size := ⟨_, rfl⟩
  have HR0 : Hid (Rs w (w4.alloc (.cells #[.int .u32 0, .int .u32 0] 38)) s p bw D ac0 0 0) := by
    have hI4 := HI3.out.below hb4 HI3.out.lt
    have hbe := HB3.out.trans (hb4.mono HB3.out.size)
    exact ⟨hI4.below (one_alloc _ _) hI4.lt, hA.below (one_alloc _ _) hA.lt, by rw [hbw]; exact heap_alloc_new _ _, hbe.trans ((one_alloc w4 _).mono hbe.size), by rw [HPp.out]; exact HB3.out.size, by rw [hbw]; exact hbe.size, by rw [HPp.out]; exact HI3.out.lt, by rw [hbw]; exact hA.lt⟩
  have HBw : Hid (w4.heap.size = bw) := hbw.symm
  clear hbw hA hb4 HNA HI3 HB3 HPp HLs
  go_upto_region 11 with fail
  rw [HBw.out]
  clear HBw
  go_wp2
  go_loopw [13, 14] (fun v13 vi wr => ∃ (i : Nat) (A : AcD) (fo : Bool) (e m : Int), i ≤ l.length ∧ v13 = .bool fo ∧ vi = .int .i64 (i : Int) ∧ Hid (A.com D D.n = (fo, e, m) ∧ A.so < 256) ∧ Hid (Rs w wr s p bw D A e m)) (fun _ vi _ => l.length - (intOf vi).toNat)
  case atStart => exact ⟨0, ac0, false, 0, 0, by omega, rfl, rfl, ⟨com0 D, by decide⟩, HR0⟩
  case round =>
    clear HR0
    obtain ⟨i, A, fo, e, m, hi, rfl, rfl, HC, HR⟩ := hrel
    by_cases hin : i < l.length
    · have hi0 : (0 : Int) ≤ (i : Int) := by omega
      have hin' : (i : Int) < (l.length : Int) := by omega
      obtain ⟨b, off, hap, hcl⟩ := HCl.out (fun q => by rw [q] at hin; simp at hin)
      subst hap
      obtain ⟨⟨v, pe, pm⟩, hpt⟩ : ∃ s, l[i]? = some s := ⟨l[i], List.getElem?_eq_getElem hin⟩
      have hgd := HGd.out _ (List.mem_of_getElem? hpt)
      have hcw : w.cell? ⟨b, off + i * 3, none⟩ = some (.int .i8 v) := hcl i _ hpt 0 _ rfl
      have hbl : b < w.heap.size := World.block_lt_of_cell? w _ hcw
      have hce : w.cell? ⟨b, off + i * 3 + 1, none⟩ = some (.int .u32 pe) := hcl i _ hpt 1 _ rfl
      have hcm : w.cell? ⟨b, off + i * 3 + 2, none⟩ = some (.int .u32 pm) := hcl i _ hpt 2 _ rfl
      have g0 : wr.cell? ⟨b, off + i * 3, none⟩ = some (.int .i8 v) ∧ wr.cell? ⟨b, off + i * 3 + 1, none⟩ = some (.int .u32 pe) ∧ wr.cell? ⟨b, off + i * 3 + 2, none⟩ = some (.int .u32 pm) := ⟨(HR.out.be.cell hbl).trans hcw, (HR.out.be.cell hbl).trans hce, (HR.out.be.cell hbl).trans hcm⟩
      have hbp : b ≠ p := by have := HR.out.lp; omega
      have HPu : Hid (Calls Try.prog 20 #[.pointer (some ⟨p, 0, none⟩), .int .i8 v, zx pe pm] wr.drew fun r w' => r = .returned (.int .i64 (putE D v)) ∧ IsAc w' p s (A.putV D v pe pm) ∧ Kept wr.drew w' (fun k => k = p)) := put_gen HD.out HR.out.drew.sy HR.out.drew.ac HC.out.2 v pe pm hgd.1.1 hgd.1.2
      have hso : Hid ((A.putV D v pe pm).so < 256) := AcD.putV_so HD.out HC.out.2 v pe pm
      have HUp : Hid (fo = true → ((A.putV D v pe pm).com D D.n).1 = true ∧ zge ((A.putV D v pe pm).com D D.n).2.1 ((A.putV D v pe pm).com D D.n).2.2 e m) := fun q => by
        have := AcD.com_rises HD.out v pe pm (A := A) (by rw [HC.out.1]; exact q)
        rw [HC.out.1] at this
        exact this
      obtain ⟨wo, hwo⟩ : ∃ wo, wo = wr := ⟨_, rfl⟩
      subst hwo
      clear hcl hgd hpt hcw hce hcm HC
      go_upto_region 15 with fail
      refine wp_region_held_drew (S := (fun W => W.cell? ⟨b, off + i * 3, none⟩ = some (.int .i8 v) ∧ W.cell? ⟨b, off + i * 3 + 1, none⟩ = some (.int .u32 pe) ∧ W.cell? ⟨b, off + i * 3 + 2, none⟩ = some (.int .u32 pm))) (by kernel_rfl) ?_ (fun hHeld => ?_)
      · exact g0
      refine wpAnyH_take (i := 0) (oi := { dst := some 72, op := Op.move (Operand.tmp 10), type := 33, pos := "law.go:250", after := #[], guard := none }) (v := ?_) rfl (by kernel_rfl) (by kernel_rfl) (by kernel_rfl) (fun _ _ _ h => h) (Or.inl ⟨by rfl, ?_⟩) (by assumption) ?_
      rotate_left
      · (intro w hSw; (try dsimp only at hSw); go_simp) <;> with_reducible rfl
      try simp only [Act.put, List.setIfInBounds_toArray, List.set_cons_zero, List.set_cons_succ]
      refine wpAnyH_take (i := 1) (oi := { dst := some 73, op := Op.move (Operand.tmp 2), type := 23, pos := "law.go:250", after := #[], guard := none }) (v := ?_) rfl (by kernel_rfl) (by kernel_rfl) (by kernel_rfl) (fun _ _ _ h => h) (Or.inl ⟨by rfl, ?_⟩) (by assumption) ?_
      rotate_left
      · (intro w hSw; (try dsimp only at hSw); go_simp) <;> with_reducible rfl
      try simp only [Act.put, List.setIfInBounds_toArray, List.set_cons_zero, List.set_cons_succ]
      refine wpAnyH_take (i := 2) (oi := { dst := some 74, op := Op.move (Operand.tmp 14), type := 3, pos := "law.go:250", after := #[], guard := none }) (v := ?_) rfl (by kernel_rfl) (by kernel_rfl) (by kernel_rfl) (fun _ _ _ h => h) (Or.inl ⟨by rfl, ?_⟩) (by assumption) ?_
      rotate_left
      · (intro w hSw; (try dsimp only at hSw); go_simp) <;> with_reducible rfl
      try simp only [Act.put, List.setIfInBounds_toArray, List.set_cons_zero, List.set_cons_succ]
      refine wpAnyH_take (i := 3) (oi := { dst := some 75, op := Op.indexAddr 23 (Operand.tmp 73) (Operand.tmp 74), type := 0, pos := "law.go:250", after := #[{ on := 1, ground := Ground.data }, { on := 2, ground := Ground.data }], guard := none }) (v := ?_) rfl (by kernel_rfl) (by kernel_rfl) (by kernel_rfl) (fun _ _ _ h => h) (Or.inl ⟨by rfl, ?_⟩) (by assumption) ?_
      rotate_left
      · (intro w hSw; (try dsimp only at hSw); go_simp) <;> with_reducible rfl
      try simp only [Act.put, List.setIfInBounds_toArray, List.set_cons_zero, List.set_cons_succ]
      refine wpAnyH_take (i := 4) (oi := { dst := some 76, op := Op.fieldAddr 50 (Operand.tmp 75) 0, type := 0, pos := "law.go:250", after := #[{ on := 3, ground := Ground.data }], guard := none }) (v := ?_) rfl (by kernel_rfl) (by kernel_rfl) (by kernel_rfl) (fun _ _ _ h => h) (Or.inl ⟨by rfl, ?_⟩) (by assumption) ?_
      rotate_left
      · (intro w hSw; (try dsimp only at hSw); go_simp) <;> with_reducible rfl
      try simp only [Act.put, List.setIfInBounds_toArray, List.set_cons_zero, List.set_cons_succ]
      refine wpAnyH_take (i := 5) (oi := { dst := some 77, op := Op.load 48 (Operand.tmp 76), type := 48, pos := "law.go:250", after := #[{ on := 4, ground := Ground.data }], guard := none }) (v := ?_) rfl (by kernel_rfl) (by kernel_rfl) (by kernel_rfl) (fun _ _ _ h => h) (Or.inl ⟨by rfl, ?_⟩) (by assumption) ?_
      rotate_left
      · (intro w hSw; (try dsimp only at hSw); go_simp) <;> with_reducible rfl
      try simp only [Act.put, List.setIfInBounds_toArray, List.set_cons_zero, List.set_cons_succ]
      refine wpAnyH_take (i := 6) (oi := { dst := some 78, op := Op.move (Operand.tmp 2), type := 23, pos := "law.go:250", after := #[], guard := none }) (v := ?_) rfl (by kernel_rfl) (by kernel_rfl) (by kernel_rfl) (fun _ _ _ h => h) (Or.inl ⟨by rfl, ?_⟩) (by assumption) ?_
      rotate_left
      · (intro w hSw; (try dsimp only at hSw); go_simp) <;> with_reducible rfl
      try simp only [Act.put, List.setIfInBounds_toArray, List.set_cons_zero, List.set_cons_succ]
      refine wpAnyH_take (i := 7) (oi := { dst := some 79, op := Op.move (Operand.tmp 14), type := 3, pos := "law.go:250", after := #[], guard := none }) (v := ?_) rfl (by kernel_rfl) (by kernel_rfl) (by kernel_rfl) (fun _ _ _ h => h) (Or.inl ⟨by rfl, ?_⟩) (by assumption) ?_
      rotate_left
      · (intro w hSw; (try dsimp only at hSw); go_simp) <;> with_reducible rfl
      try simp only [Act.put, List.setIfInBounds_toArray, List.set_cons_zero, List.set_cons_succ]
      refine wpAnyH_take (i := 8) (oi := { dst := some 80, op := Op.indexAddr 23 (Operand.tmp 78) (Operand.tmp 79), type := 0, pos := "law.go:250", after := #[{ on := 6, ground := Ground.data }, { on := 7, ground := Ground.data }], guard := none }) (v := ?_) rfl (by kernel_rfl) (by kernel_rfl) (by kernel_rfl) (fun _ _ _ h => h) (Or.inl ⟨by rfl, ?_⟩) (by assumption) ?_
      rotate_left
      · (intro w hSw; (try dsimp only at hSw); go_simp) <;> with_reducible rfl
      try simp only [Act.put, List.setIfInBounds_toArray, List.set_cons_zero, List.set_cons_succ]
      refine wpAnyH_take (i := 9) (oi := { dst := some 81, op := Op.fieldAddr 50 (Operand.tmp 80) 1, type := 0, pos := "law.go:250", after := #[{ on := 8, ground := Ground.data }], guard := none }) (v := ?_) rfl (by kernel_rfl) (by kernel_rfl) (by kernel_rfl) (fun _ _ _ h => h) (Or.inl ⟨by rfl, ?_⟩) (by assumption) ?_
      rotate_left
      · (intro w hSw; (try dsimp only at hSw); go_simp) <;> with_reducible rfl
      try simp only [Act.put, List.setIfInBounds_toArray, List.set_cons_zero, List.set_cons_succ]
      refine wpAnyH_take (i := 10) (oi := { dst := some 82, op := Op.load 38 (Operand.tmp 81), type := 38, pos := "law.go:250", after := #[{ on := 9, ground := Ground.data }], guard := none }) (v := ?_) rfl (by kernel_rfl) (by kernel_rfl) (by kernel_rfl) (fun _ _ _ h => h) (Or.inl ⟨by rfl, ?_⟩) (by assumption) ?_
      rotate_left
      · (intro w hSw; (try dsimp only at hSw); go_simp) <;> with_reducible rfl
      try simp only [Act.put, List.setIfInBounds_toArray, List.set_cons_zero, List.set_cons_succ]
      refine wpAnyH_ready (rs := [11]) (by kernel_rfl) (by simp) ?_
      refine AllReadyH.cons (o := { dst := some 83, op := Op.call { callee := Callee.value (Operand.func 20), args := #[Operand.tmp 72, Operand.tmp 77, Operand.tmp 82], argTypes := #[33, 48, 38] }, type := 26, pos := "law.go:250", after := #[{ on := 0, ground := Ground.data }, { on := 5, ground := Ground.data }, { on := 10, ground := Ground.data }], guard := none }) rfl (fun K hK => ?_) AllReadyH.nil
      go_simp
      refine Calls.mono HPu.out ?_
      rintro r w1 ⟨rfl, hA1, hk1⟩
      have g1 : w1.cell? ⟨b, off + i * 3, none⟩ = some (.int .i8 v) ∧ w1.cell? ⟨b, off + i * 3 + 1, none⟩ = some (.int .u32 pe) ∧ w1.cell? ⟨b, off + i * 3 + 2, none⟩ = some (.int .u32 pm) := ⟨hk1.cell g0.1 hbp, hk1.cell g0.2.1 hbp, hk1.cell g0.2.2 hbp⟩
      have HR1 : Hid (Rs w w1 s p bw D (A.putV D v pe pm) e m) := HR.out.put hA1 hk1
      clear hA1 hk1 HPu HR
      refine hK.out _ _ g1 (fun hHeld => ?_)
      clear hK K
      refine wpAnyH_done (by kernel_rfl) ?_ _
      clear hHeld g0 g1 hbp
      obtain ⟨B, hB⟩ : ∃ B, B = A.putV D v pe pm := ⟨_, rfl⟩
      rw [← hB] at HR1 hso HUp
      clear hB
      have hc2 := com_any HD.out HR1.out.sy HR1.out.ac hso.out
      obtain ⟨fc, z, y, hcom⟩ : ∃ fc z y, B.com D D.n = (fc, z, y) := ⟨_, _, _, rfl⟩
      rw [hcom] at hc2
      rw [hcom] at HUp
      have HC2 : Hid (Calls Try.prog 16 #[.pointer (some ⟨p, 0, none⟩)] w1 fun r w' => r = .returned (.tuple #[zx z y, .bool fc]) ∧ Below w1.heap.size w1 w') := hc2
      have HCm : Hid (B.com D D.n = (fc, z, y)) := hcom
      clear hc2 hcom
      go_wp2_with fail
      refine Calls.mono HC2.out ?_
      rintro r w2 ⟨rfl, hb2⟩
      obtain ⟨bz, hbz⟩ : ∃ bz, bz = w2.heap.size := ⟨_, rfl⟩
      obtain ⟨W3, hW3⟩ : ∃ W3, W3 = w2.alloc (.cells #[.int .u32 z, .int .u32 y] 38) := ⟨_, rfl⟩
      have HR3 : Hid (Rs w W3 s p bw D B e m) := by rw [hW3]; exact (HR1.out.later hb2).later (one_alloc _ _)
      have HZ3 : Hid (W3.heap[bz]? = some (.cells #[.int .u32 z, .int .u32 y] 38 (0, 0)) ∧ bw < bz) := ⟨by rw [hW3, hbz]; exact heap_alloc_new _ _, by rw [hbz]; exact lt_of_block (HR1.out.later hb2).bx⟩
      have HW3 : Hid (w2.alloc (.cells #[.int .u32 z, .int .u32 y] 38) = W3 ∧ w2.heap.size = bz) := ⟨hW3.symm, hbz.symm⟩
      clear hW3 hbz hb2 HC2 HR1
      go_upto_region 17 with fail
      rw [HW3.out.1, HW3.out.2]
      clear HW3
      cases fo with
      | false =>
        go_upto_region 19 with fail
        obtain ⟨WT, hWT⟩ : ∃ WT, WT = W3 := ⟨_, rfl⟩
        subst hWT
        have HRT := HR3
        have HZT := HZ3
        clear HR3 HZ3 HUp
        have r5 := HRT.out.bx
        have z0 := cell_of_row _ _ 0 _ _ _ HZT.out.1
        have z1 := cell_of_row _ _ 1 _ _ _ HZT.out.1
        obtain ⟨W5, hW5⟩ : ∃ W5, W5 = WT.setRow bw #[.int .u32 z, .int .u32 y] := ⟨_, rfl⟩
        have HR5 : Hid (Rs w W5 s p bw D B z y) := by rw [hW5]; exact HRT.out.set z y
        have HZ5 : Hid (W5.heap[bz]? = some (.cells #[.int .u32 z, .int .u32 y] 38 (0, 0))) := by
          show _ = _
          rw [hW5]
          exact (setRow_other _ _ _ _ (by have := HZT.out.2; omega)).trans HZT.out.1
        have HW5 : Hid (WT.setRow bw #[.int .u32 z, .int .u32 y] = W5) := hW5.symm
        have hq2 := q2z
        have hall : (#[Value.int .u32 z, .int .u32 y]).all (·.oneCell') = true := by simp [Value.oneCell']
        go_upto_region 20 with (refine wpList_store_row rfl 38 _ _ rfl bw #[.int .u32 z, .int .u32 y] rfl rfl 38 _ r5 hq2 rfl hall ?_)
        rw [HW5.out]
        clear HW5 hW5 r5 z0 z1 HRT HZT hall
        go_wp2
        go_loopw [17, 18, 19, 20] (fun v17 v18 v19 vk wr => ∃ k : Nat, k ≤ 7 ∧ v17 = .int .u8 (gN (fSt B D fc z y) k : Int) ∧ v18 = .int .u8 (gN (fAb B D fc z y) k : Int) ∧ v19 = .int .u8 (gN (fAl B D) k : Int) ∧ vk = .int .i64 (k : Int) ∧ Hid (Below W5.heap.size W5 wr)) (fun _ _ _ vk _ => 7 - (intOf vk).toNat)
        case atStart => exact ⟨0, by omega, rfl, rfl, rfl, rfl, Below.refl _ _⟩
        case round =>
          obtain ⟨k, hk, rfl, rfl, rfl, rfl, HW⟩ := hrel
          have HRr : Hid (Rs w wr s p bw D B z y) := HR5.out.later HW.out
          by_cases hk7 : k < 7
          · have hk0 : (0 : Int) ≤ (k : Int) := by omega
            have hk7' : (k : Int) < 7 := by omega
            have ho := of_gen HD.out HRr.out.sy HRr.out.ac hso.out (k : Int) (by omega) (by omega)
            have sAl : Hid (fAl B D k = B.isV D k) := rfl
            have sSt : Hid (fSt B D fc z y k = (B.isV D k && (fc && decide (0 ≤ zcmp (B.ofE D k) (B.ofM D k) z y)))) := rfl
            have sAb : Hid (fAb B D fc z y k = (B.isV D k && (fc && decide (0 < zcmp (B.ofE D k) (B.ofM D k) z y)))) := rfl
            generalize B.ofE D (k : Int) = oe at *
            generalize B.ofM D (k : Int) = om at *
            generalize B.isV D (k : Int) = iv at *
            have HO : Hid (Calls Try.prog 18 #[.pointer (some ⟨p, 0, none⟩), .int .i8 (k : Int)] wr fun r w' => r = .returned (.tuple #[zx oe om, .bool iv]) ∧ Below wr.heap.size wr w') := ho
            clear ho
            go_wp2_with fail
            refine Calls.mono HO.out ?_
            rintro r w6 ⟨rfl, hb6⟩
            obtain ⟨by_, hby⟩ : ∃ b, b = w6.heap.size := ⟨_, rfl⟩
            obtain ⟨W6, hW6⟩ : ∃ W6, W6 = w6.alloc (.cells #[.int .u32 oe, .int .u32 om] 38) := ⟨_, rfl⟩
            have HB6 : Hid (Below W5.heap.size W5 W6) := by rw [hW6]; exact (HW.out.trans (hb6.mono HW.out.size)).trans ((one_alloc w6 _).mono (HW.out.trans (hb6.mono HW.out.size)).size)
            have HY6 : Hid (W6.heap[by_]? = some (.cells #[.int .u32 oe, .int .u32 om] 38 (0, 0))) := by show _ = _; rw [hW6, hby]; exact heap_alloc_new _ _
            have HZ6 : Hid (W6.heap[bz]? = some (.cells #[.int .u32 z, .int .u32 y] 38 (0, 0))) := keepH HB6.out HZ5.out
            have HW6 : Hid (w6.alloc (.cells #[.int .u32 oe, .int .u32 om] 38) = W6 ∧ w6.heap.size = by_) := ⟨hW6.symm, hby.symm⟩
            clear hW6 hby hb6 HO HW HRr
            go_upto_region 28 with fail
            rw [HW6.out.1, HW6.out.2]
            clear HW6
            cases iv with
            | false =>
              have HX : Hid (gN (fAl B D) (k + 1) = gN (fAl B D) k ∧ gN (fSt B D fc z y) (k + 1) = gN (fSt B D fc z y) k ∧ gN (fAb B D fc z y) (k + 1) = gN (fAb B D fc z y) k) := ⟨gN_no sAl.out, gN_no sSt.out, gN_no sAb.out⟩
              clear sAl sSt sAb HY6 HZ6
              go_wp2
              go_roundw
              case rel => exact ⟨k + 1, by omega, by rw [HX.out.2.1], by rw [HX.out.2.2], by rw [HX.out.1], by simp, HB6⟩
              case measure => simp [intOf]; omega
            | true =>
              have HXa : Hid (bits .or .u8 (gN (fAl B D) k : Int) ((2 : Int) ^ k % 256) = (gN (fAl B D) (k + 1) : Int)) := or_step hk7 sAl.out
              cases fc with
              | false =>
                have HX : Hid (gN (fSt B D false z y) (k + 1) = gN (fSt B D false z y) k ∧ gN (fAb B D false z y) (k + 1) = gN (fAb B D false z y) k) := ⟨gN_no sSt.out, gN_no sAb.out⟩
                clear sAl sSt sAb HY6 HZ6
                go_wp2
                go_roundw
                case rel => exact ⟨k + 1, by omega, by rw [HX.out.1], by rw [HX.out.2], by rw [HXa.out], by simp, HB6⟩
                case measure => simp [intOf]; omega
              | true =>
                have y0 := cell_of_row _ _ 0 _ _ _ HY6.out
                have y1 := cell_of_row _ _ 1 _ _ _ HY6.out
                have x0 := cell_of_row _ _ 0 _ _ _ HZ6.out
                have x1 := cell_of_row _ _ 1 _ _ _ HZ6.out
                obtain ⟨cc, hcc⟩ : ∃ cc, cc = zcmp oe om z y := ⟨_, rfl⟩
                have HCc := fun W => refCompare_any oe om z y W
                rw [← hcc] at HCc sSt sAb
                clear hcc
                go_upto_region 30 with fail
                go_wp2_with fail
                go_at_call 29
                refine (HCc _).mono ?_
                rintro r w7 ⟨rfl, hb7⟩
                have HB7 : Hid (Below W5.heap.size W5 w7) := HB6.out.trans (hb7.mono HB6.out.size)
                have y2 := kcell hb7 y0
                have y3 := kcell hb7 y1
                have x2 := kcell hb7 x0
                have x3 := kcell hb7 x1
                clear hb7 y0 y1 x0 x1 HB6 HY6 HZ6
                by_cases c1 : cc < 0
                · have e31 := hl31
                  have HXs : Hid (gN (fSt B D true z y) (k + 1) = gN (fSt B D true z y) k ∧ gN (fAb B D true z y) (k + 1) = gN (fAb B D true z y) k) := ⟨gN_no (by rw [sSt.out, decide_eq_false (show ¬ 0 ≤ cc by omega)]; rfl), gN_no (by rw [sAb.out, decide_eq_false (show ¬ 0 < cc by omega)]; rfl)⟩
                  go_wp2_with fail
                  go_at_call 29
                  refine (HCc _).mono ?_
                  rintro r w8 ⟨rfl, hb8⟩
                  have HB8 : Hid (Below W5.heap.size W5 w8) := HB7.out.trans (hb8.mono HB7.out.size)
                  clear hb8 y2 y3 x2 x3 HB7 sAl sSt sAb HCc
                  go_wp2
                  go_roundw
                  case rel => exact ⟨k + 1, by omega, by rw [HXs.out.1], by rw [HXs.out.2], by rw [HXa.out], by simp, HB8⟩
                  case measure => simp [intOf]; omega
                · by_cases c2 : cc = 0
                  · subst c2
                    have HXs : Hid (bits .or .u8 (gN (fSt B D true z y) k : Int) ((2 : Int) ^ k % 256) = (gN (fSt B D true z y) (k + 1) : Int)) := or_step hk7 (by rw [sSt.out, decide_eq_true (show (0 : Int) ≤ 0 by omega)]; rfl)
                    have HXb : Hid (gN (fAb B D true z y) (k + 1) = gN (fAb B D true z y) k) := gN_no (by rw [sAb.out, decide_eq_false (show ¬ (0 : Int) < 0 by omega)]; rfl)
                    clear c1
                    go_wp2_with fail
                    go_at_call 29
                    refine (HCc _).mono ?_
                    rintro r w8 ⟨rfl, hb8⟩
                    have HB8 : Hid (Below W5.heap.size W5 w8) := HB7.out.trans (hb8.mono HB7.out.size)
                    clear hb8 y2 y3 x2 x3 HB7 sAl sSt sAb HCc
                    go_wp2
                    go_roundw
                    case rel => exact ⟨k + 1, by omega, by rw [HXs.out], by rw [HXb.out], by rw [HXa.out], by simp, HB8⟩
                    case measure => simp [intOf]; omega
                  · have c3 : 0 < cc := by omega
                    have HXs : Hid (bits .or .u8 (gN (fSt B D true z y) k : Int) ((2 : Int) ^ k % 256) = (gN (fSt B D true z y) (k + 1) : Int)) := or_step hk7 (by rw [sSt.out, decide_eq_true (show 0 ≤ cc by omega)]; rfl)
                    have HXb : Hid (bits .or .u8 (gN (fAb B D true z y) k : Int) ((2 : Int) ^ k % 256) = (gN (fAb B D true z y) (k + 1) : Int)) := or_step hk7 (by rw [sAb.out, decide_eq_true c3]; rfl)
                    clear c1 c2
                    go_wp2_with fail
                    go_at_call 29
                    refine (HCc _).mono ?_
                    rintro r w8 ⟨rfl, hb8⟩
                    have HB8 : Hid (Below W5.heap.size W5 w8) := HB7.out.trans (hb8.mono HB7.out.size)
                    clear hb8 y2 y3 x2 x3 HB7 sAl sSt sAb HCc
                    go_wp2
                    go_roundw
                    case rel => exact ⟨k + 1, by omega, by rw [HXs.out], by rw [HXb.out], by rw [HXa.out], by simp, HB8⟩
                    case measure => simp [intOf]; omega
          · obtain rfl : k = 7 := by omega
            have hsr := sets_right HD.out HCm.out
            have hl1 := gN_lt (fSt B D fc z y) (Nat.le_refl 7)
            have hl2 := gN_lt (fAb B D fc z y) (Nat.le_refl 7)
            have hl3 := gN_lt (fAl B D) (Nat.le_refl 7)
            have hnn := andn127 hl1
            generalize gN (fSt B D fc z y) 7 = nS at *
            generalize gN (fAb B D fc z y) 7 = nB at *
            generalize gN (fAl B D) 7 = nA at *
            have e7 : ((7 : Nat) : Int) = 7 := rfl
            generalize ((7 : Nat) : Int) = z7 at *
            have h7 : ¬ z7 < 7 := by omega
            clear e7 HW
            cases fc with
            | true =>
              obtain ⟨a1, a2, a3⟩ := hsr.1 rfl
              have hl4 : 127 &&& (255 ^^^ nS) < 256 := Nat.lt_of_le_of_lt Nat.and_le_left (by decide)
              have hc1 := has_sy HD.out HRr.out.sy hl1
              rw [a1] at hc1
              have HC1 : Hid (Calls Try.prog 22 #[.pointer (some ⟨s, 0, none⟩), .int .u8 (nS : Int)] wr fun e w' => e = .returned (.bool true) ∧ Below wr.heap.size wr w') := hc1
              clear hc1 hsr
              go_wp2_with fail
              refine Calls.mono HC1.out ?_
              rintro r w7 ⟨rfl, hb7⟩
              have HR7 : Hid (Rs w w7 s p bw D B z y) := HRr.out.later hb7
              clear hb7 HC1
              have hc2 := has_sy HD.out HR7.out.sy hl2
              rw [a2] at hc2
              have HC2 : Hid (Calls Try.prog 22 #[.pointer (some ⟨s, 0, none⟩), .int .u8 (nB : Int)] w7 fun e w' => e = .returned (.bool false) ∧ Below w7.heap.size w7 w') := hc2
              clear hc2
              go_wp2_with fail
              refine Calls.mono HC2.out ?_
              rintro r w8 ⟨rfl, hb8⟩
              have HR8 : Hid (Rs w w8 s p bw D B z y) := HR7.out.later hb8
              clear hb8 HC2
              have hc3 := has_sy HD.out HR8.out.sy hl4
              rw [a3] at hc3
              have HC3 : Hid (Calls Try.prog 22 #[.pointer (some ⟨s, 0, none⟩), .int .u8 ((127 &&& (255 ^^^ nS) : Nat) : Int)] w8 fun e w' => e = .returned (.bool false) ∧ Below w8.heap.size w8 w') := hc3
              clear hc3
              go_wp2_with fail
              refine Calls.mono HC3.out ?_
              rintro r w9 ⟨rfl, hb9⟩
              have HR9 : Hid (Rs w w9 s p bw D B z y) := HR8.out.later hb9
              clear hb9 HC3 a1 a2 a3
              go_wp2
              go_roundw
              case rel => exact ⟨i + 1, B, true, z, y, by omega, rfl, by simp, ⟨HCm.out, hso.out⟩, HR9⟩
              case measure => simp [intOf]; omega
            | false =>
              have a1 := hsr.2 rfl
              have hc1 := has_sy HD.out HRr.out.sy hl3
              rw [a1] at hc1
              have HC1 : Hid (Calls Try.prog 22 #[.pointer (some ⟨s, 0, none⟩), .int .u8 (nA : Int)] wr fun e w' => e = .returned (.bool false) ∧ Below wr.heap.size wr w') := hc1
              clear hc1 hsr
              go_wp2_with fail
              refine Calls.mono HC1.out ?_
              rintro r w7 ⟨rfl, hb7⟩
              have HR7 : Hid (Rs w w7 s p bw D B z y) := HRr.out.later hb7
              clear hb7 HC1 a1
              go_wp2
              go_roundw
              case rel => exact ⟨i + 1, B, false, z, y, by omega, rfl, by simp, ⟨HCm.out, hso.out⟩, HR7⟩
              case measure => simp [intOf]; omega
      | true =>
        obtain ⟨hf, hzg⟩ := HUp.out rfl
        have hf' : fc = true := hf
        subst hf'
        have hge : ¬ zcmp z y e m < 0 := by have := (zge_iff z y e m).2 hzg; omega
        have hz0 := cell_of_row _ _ 0 _ _ _ HZ3.out.1
        have hz1 := cell_of_row _ _ 1 _ _ _ HZ3.out.1
        have hw0 := cell_of_row _ _ 0 _ _ _ HR3.out.bx
        have hw1 := cell_of_row _ _ 1 _ _ _ HR3.out.bx
        clear hf hzg HUp
        go_wp2_with fail
        go_at_call 29
        refine (refCompare_any z y e m _).mono ?_
        rintro r WT ⟨rfl, hbT⟩
        have HRT : Hid (Rs w WT s p bw D B e m) := HR3.out.later hbT
        have HZT : Hid (WT.heap[bz]? = some (.cells #[.int .u32 z, .int .u32 y] 38 (0, 0)) ∧ bw < bz) := ⟨keepH hbT HZ3.out.1, HZ3.out.2⟩
        clear hbT hz0 hz1 hw0 hw1 HR3 HZ3
        go_upto_region 19 with fail
        have r5 := HRT.out.bx
        have z0 := cell_of_row _ _ 0 _ _ _ HZT.out.1
        have z1 := cell_of_row _ _ 1 _ _ _ HZT.out.1
        obtain ⟨W5, hW5⟩ : ∃ W5, W5 = WT.setRow bw #[.int .u32 z, .int .u32 y] := ⟨_, rfl⟩
        have HR5 : Hid (Rs w W5 s p bw D B z y) := by rw [hW5]; exact HRT.out.set z y
        have HZ5 : Hid (W5.heap[bz]? = some (.cells #[.int .u32 z, .int .u32 y] 38 (0, 0))) := by
          show _ = _
          rw [hW5]
          exact (setRow_other _ _ _ _ (by have := HZT.out.2; omega)).trans HZT.out.1
        have HW5 : Hid (WT.setRow bw #[.int .u32 z, .int .u32 y] = W5) := hW5.symm
        have hq2 := q2z
        have hall : (#[Value.int .u32 z, .int .u32 y]).all (·.oneCell') = true := by simp [Value.oneCell']
        go_upto_region 20 with (refine wpList_store_row rfl 38 _ _ rfl bw #[.int .u32 z, .int .u32 y] rfl rfl 38 _ r5 hq2 rfl hall ?_)
        rw [HW5.out]
        clear HW5 hW5 r5 z0 z1 HRT HZT hall
        go_wp2
        go_loopw [17, 18, 19, 20] (fun v17 v18 v19 vk wr => ∃ k : Nat, k ≤ 7 ∧ v17 = .int .u8 (gN (fSt B D true z y) k : Int) ∧ v18 = .int .u8 (gN (fAb B D true z y) k : Int) ∧ v19 = .int .u8 (gN (fAl B D) k : Int) ∧ vk = .int .i64 (k : Int) ∧ Hid (Below W5.heap.size W5 wr)) (fun _ _ _ vk _ => 7 - (intOf vk).toNat)
        case atStart => exact ⟨0, by omega, rfl, rfl, rfl, rfl, Below.refl _ _⟩
        case round =>
          obtain ⟨k, hk, rfl, rfl, rfl, rfl, HW⟩ := hrel
          have HRr : Hid (Rs w wr s p bw D B z y) := HR5.out.later HW.out
          by_cases hk7 : k < 7
          · have hk0 : (0 : Int) ≤ (k : Int) := by omega
            have hk7' : (k : Int) < 7 := by omega
            have ho := of_gen HD.out HRr.out.sy HRr.out.ac hso.out (k : Int) (by omega) (by omega)
            have sAl : Hid (fAl B D k = B.isV D k) := rfl
            have sSt : Hid (fSt B D true z y k = (B.isV D k && (true && decide (0 ≤ zcmp (B.ofE D k) (B.ofM D k) z y)))) := rfl
            have sAb : Hid (fAb B D true z y k = (B.isV D k && (true && decide (0 < zcmp (B.ofE D k) (B.ofM D k) z y)))) := rfl
            generalize B.ofE D (k : Int) = oe at *
            generalize B.ofM D (k : Int) = om at *
            generalize B.isV D (k : Int) = iv at *
            have HO : Hid (Calls Try.prog 18 #[.pointer (some ⟨p, 0, none⟩), .int .i8 (k : Int)] wr fun r w' => r = .returned (.tuple #[zx oe om, .bool iv]) ∧ Below wr.heap.size wr w') := ho
            clear ho
            go_wp2_with fail
            refine Calls.mono HO.out ?_
            rintro r w6 ⟨rfl, hb6⟩
            obtain ⟨by_, hby⟩ : ∃ b, b = w6.heap.size := ⟨_, rfl⟩
            obtain ⟨W6, hW6⟩ : ∃ W6, W6 = w6.alloc (.cells #[.int .u32 oe, .int .u32 om] 38) := ⟨_, rfl⟩
            have HB6 : Hid (Below W5.heap.size W5 W6) := by rw [hW6]; exact (HW.out.trans (hb6.mono HW.out.size)).trans ((one_alloc w6 _).mono (HW.out.trans (hb6.mono HW.out.size)).size)
            have HY6 : Hid (W6.heap[by_]? = some (.cells #[.int .u32 oe, .int .u32 om] 38 (0, 0))) := by show _ = _; rw [hW6, hby]; exact heap_alloc_new _ _
            have HZ6 : Hid (W6.heap[bz]? = some (.cells #[.int .u32 z, .int .u32 y] 38 (0, 0))) := keepH HB6.out HZ5.out
            have HW6 : Hid (w6.alloc (.cells #[.int .u32 oe, .int .u32 om] 38) = W6 ∧ w6.heap.size = by_) := ⟨hW6.symm, hby.symm⟩
            clear hW6 hby hb6 HO HW HRr
            go_upto_region 28 with fail
            rw [HW6.out.1, HW6.out.2]
            clear HW6
            cases iv with
            | false =>
              have HX : Hid (gN (fAl B D) (k + 1) = gN (fAl B D) k ∧ gN (fSt B D true z y) (k + 1) = gN (fSt B D true z y) k ∧ gN (fAb B D true z y) (k + 1) = gN (fAb B D true z y) k) := ⟨gN_no sAl.out, gN_no sSt.out, gN_no sAb.out⟩
              clear sAl sSt sAb HY6 HZ6
              go_wp2
              go_roundw
              case rel => exact ⟨k + 1, by omega, by rw [HX.out.2.1], by rw [HX.out.2.2], by rw [HX.out.1], by simp, HB6⟩
              case measure => simp [intOf]; omega
            | true =>
              have HXa : Hid (bits .or .u8 (gN (fAl B D) k : Int) ((2 : Int) ^ k % 256) = (gN (fAl B D) (k + 1) : Int)) := or_step hk7 sAl.out
              have y0 := cell_of_row _ _ 0 _ _ _ HY6.out
              have y1 := cell_of_row _ _ 1 _ _ _ HY6.out
              have x0 := cell_of_row _ _ 0 _ _ _ HZ6.out
              have x1 := cell_of_row _ _ 1 _ _ _ HZ6.out
              obtain ⟨cc, hcc⟩ : ∃ cc, cc = zcmp oe om z y := ⟨_, rfl⟩
              have HCc := fun W => refCompare_any oe om z y W
              rw [← hcc] at HCc sSt sAb
              clear hcc
              go_upto_region 30 with fail
              go_wp2_with fail
              go_at_call 29
              refine (HCc _).mono ?_
              rintro r w7 ⟨rfl, hb7⟩
              have HB7 : Hid (Below W5.heap.size W5 w7) := HB6.out.trans (hb7.mono HB6.out.size)
              have y2 := kcell hb7 y0
              have y3 := kcell hb7 y1
              have x2 := kcell hb7 x0
              have x3 := kcell hb7 x1
              clear hb7 y0 y1 x0 x1 HB6 HY6 HZ6
              by_cases c1 : cc < 0
              · have e31 := hl31
                have HXs : Hid (gN (fSt B D true z y) (k + 1) = gN (fSt B D true z y) k ∧ gN (fAb B D true z y) (k + 1) = gN (fAb B D true z y) k) := ⟨gN_no (by rw [sSt.out, decide_eq_false (show ¬ 0 ≤ cc by omega)]; rfl), gN_no (by rw [sAb.out, decide_eq_false (show ¬ 0 < cc by omega)]; rfl)⟩
                go_wp2_with fail
                go_at_call 29
                refine (HCc _).mono ?_
                rintro r w8 ⟨rfl, hb8⟩
                have HB8 : Hid (Below W5.heap.size W5 w8) := HB7.out.trans (hb8.mono HB7.out.size)
                clear hb8 y2 y3 x2 x3 HB7 sAl sSt sAb HCc
                go_wp2
                go_roundw
                case rel => exact ⟨k + 1, by omega, by rw [HXs.out.1], by rw [HXs.out.2], by rw [HXa.out], by simp, HB8⟩
                case measure => simp [intOf]; omega
              · by_cases c2 : cc = 0
                · subst c2
                  have HXs : Hid (bits .or .u8 (gN (fSt B D true z y) k : Int) ((2 : Int) ^ k % 256) = (gN (fSt B D true z y) (k + 1) : Int)) := or_step hk7 (by rw [sSt.out, decide_eq_true (show (0 : Int) ≤ 0 by omega)]; rfl)
                  have HXb : Hid (gN (fAb B D true z y) (k + 1) = gN (fAb B D true z y) k) := gN_no (by rw [sAb.out, decide_eq_false (show ¬ (0 : Int) < 0 by omega)]; rfl)
                  clear c1
                  go_wp2_with fail
                  go_at_call 29
                  refine (HCc _).mono ?_
                  rintro r w8 ⟨rfl, hb8⟩
                  have HB8 : Hid (Below W5.heap.size W5 w8) := HB7.out.trans (hb8.mono HB7.out.size)
                  clear hb8 y2 y3 x2 x3 HB7 sAl sSt sAb HCc
                  go_wp2
                  go_roundw
                  case rel => exact ⟨k + 1, by omega, by rw [HXs.out], by rw [HXb.out], by rw [HXa.out], by simp, HB8⟩
                  case measure => simp [intOf]; omega
                · have c3 : 0 < cc := by omega
                  have HXs : Hid (bits .or .u8 (gN (fSt B D true z y) k : Int) ((2 : Int) ^ k % 256) = (gN (fSt B D true z y) (k + 1) : Int)) := or_step hk7 (by rw [sSt.out, decide_eq_true (show 0 ≤ cc by omega)]; rfl)
                  have HXb : Hid (bits .or .u8 (gN (fAb B D true z y) k : Int) ((2 : Int) ^ k % 256) = (gN (fAb B D true z y) (k + 1) : Int)) := or_step hk7 (by rw [sAb.out, decide_eq_true c3]; rfl)
                  clear c1 c2
                  go_wp2_with fail
                  go_at_call 29
                  refine (HCc _).mono ?_
                  rintro r w8 ⟨rfl, hb8⟩
                  have HB8 : Hid (Below W5.heap.size W5 w8) := HB7.out.trans (hb8.mono HB7.out.size)
                  clear hb8 y2 y3 x2 x3 HB7 sAl sSt sAb HCc
                  go_wp2
                  go_roundw
                  case rel => exact ⟨k + 1, by omega, by rw [HXs.out], by rw [HXb.out], by rw [HXa.out], by simp, HB8⟩
                  case measure => simp [intOf]; omega
          · obtain rfl : k = 7 := by omega
            have hsr := sets_right HD.out HCm.out
            have hl1 := gN_lt (fSt B D true z y) (Nat.le_refl 7)
            have hl2 := gN_lt (fAb B D true z y) (Nat.le_refl 7)
            have hl3 := gN_lt (fAl B D) (Nat.le_refl 7)
            have hnn := andn127 hl1
            generalize gN (fSt B D true z y) 7 = nS at *
            generalize gN (fAb B D true z y) 7 = nB at *
            generalize gN (fAl B D) 7 = nA at *
            have e7 : ((7 : Nat) : Int) = 7 := rfl
            generalize ((7 : Nat) : Int) = z7 at *
            have h7 : ¬ z7 < 7 := by omega
            clear e7 HW
            obtain ⟨a1, a2, a3⟩ := hsr.1 rfl
            have hl4 : 127 &&& (255 ^^^ nS) < 256 := Nat.lt_of_le_of_lt Nat.and_le_left (by decide)
            have hc1 := has_sy HD.out HRr.out.sy hl1
            rw [a1] at hc1
            have HC1 : Hid (Calls Try.prog 22 #[.pointer (some ⟨s, 0, none⟩), .int .u8 (nS : Int)] wr fun e w' => e = .returned (.bool true) ∧ Below wr.heap.size wr w') := hc1
            clear hc1 hsr
            go_wp2_with fail
            refine Calls.mono HC1.out ?_
            rintro r w7 ⟨rfl, hb7⟩
            have HR7 : Hid (Rs w w7 s p bw D B z y) := HRr.out.later hb7
            clear hb7 HC1
            have hc2 := has_sy HD.out HR7.out.sy hl2
            rw [a2] at hc2
            have HC2 : Hid (Calls Try.prog 22 #[.pointer (some ⟨s, 0, none⟩), .int .u8 (nB : Int)] w7 fun e w' => e = .returned (.bool false) ∧ Below w7.heap.size w7 w') := hc2
            clear hc2
            go_wp2_with fail
            refine Calls.mono HC2.out ?_
            rintro r w8 ⟨rfl, hb8⟩
            have HR8 : Hid (Rs w w8 s p bw D B z y) := HR7.out.later hb8
            clear hb8 HC2
            have hc3 := has_sy HD.out HR8.out.sy hl4
            rw [a3] at hc3
            have HC3 : Hid (Calls Try.prog 22 #[.pointer (some ⟨s, 0, none⟩), .int .u8 ((127 &&& (255 ^^^ nS) : Nat) : Int)] w8 fun e w' => e = .returned (.bool false) ∧ Below w8.heap.size w8 w') := hc3
            clear hc3
            go_wp2_with fail
            refine Calls.mono HC3.out ?_
            rintro r w9 ⟨rfl, hb9⟩
            have HR9 : Hid (Rs w w9 s p bw D B z y) := HR8.out.later hb9
            clear hb9 HC3 a1 a2 a3
            go_wp2
            go_roundw
            case rel => exact ⟨i + 1, B, true, z, y, by omega, rfl, by simp, ⟨HCm.out, hso.out⟩, HR9⟩
            case measure => simp [intOf]; omega
    · go_wp2
      all_goals (go_ret; exact ⟨rfl, HR.out.be⟩)

end Go.Proofs.Ytlnoighjdmjdeaa
