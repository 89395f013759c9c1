/- The walk of AclAllows: every list, as it is and fixed, every permission, every client. -/
import Derived.Test.YtjakjbfeaiempaaDoorQdAJ
import Derived.Test.YtjakjbfeaiempaaDoorQdLJ
import Derived.Test.YtjakjbfeaiempaaDoorQdJJ
namespace Go.Proofs.YtjakjbfeaiempaaDoor
open Go.RowKit Go.Shelf
set_option maxRecDepth 8000

theorem fxLs_long {l : List EnT} (h : ¬ l.length ≤ 1000) : enLs l = false ∧ fxLs l = false := by
  have : enLs l = false := by unfold enLs; rw [decide_eq_false (by omega)]; rfl
  exact ⟨this, by unfold fxLs; rw [this]; rfl⟩

set_option maxHeartbeats 1000000 in
theorem allows_all (v u : Value) (l : List EnT) (p : Int) (who : List IdT) (w : World) (h : SE w v l) (g : SI w u who) (hsz : ∀ x ∈ l, x.2.2.size ≤ 4294967296) (gsz : ∀ x ∈ who, x.2.size ≤ 4294967296) : Calls Tryd.prog 17 #[v, .int .i8 p, u] w fun e w' => e = .returned (.bool (alB l p who)) ∧ Below w.heap.size w w' := by
  by_cases hl : l.length ≤ 1000
  · exact allows_gen v u l p who w h g hl hsz gsz
  obtain ⟨f1, f2⟩ := fxLs_long hl
  have HCk : Hid (Calls Tryd.prog 8 #[v] w fun e w' => e = .returned (.int .i64 60) ∧ Below w.heap.size w w') := (aclCheck v l w h hsz).mono (fun e w' hh => ⟨by rw [hh.1, f1]; rfl, hh.2⟩)
  have HFx : Hid (Calls Tryd.prog 29 #[v] w fun e w' => e = .returned (.bool false) ∧ Below w.heap.size w w') := by
    show Calls _ _ _ _ _
    obtain ⟨ao, cap, rfl, _, _⟩ := id h
    clear h g hsz gsz hl f1 f2
    go_enter Tryd.func29, Tryd.ntmps29
    go_wp2_with fail
    go_at_call 8
    refine HCk.out.mono ?_
    rintro e w1 ⟨rfl, hB⟩
    go_wp2
    go_ret
    exact ⟨rfl, hB⟩
  have ha : alB l p who = false := by unfold alB; rw [f2]; rfl
  rw [ha]
  clear h g hsz gsz hl f1 f2 ha HCk
  go_enter Tryd.func17, Tryd.ntmps17
  go_wp2_with (go_at_call 29; refine (HFx.out).mono ?_; rintro e w1 ⟨rfl, hB⟩)
  all_goals (go_ret; exact ⟨rfl, hB⟩)

/-- What the law has in memory: the lists as they came, and wide ones of its own. -/
def CA (w : World) (lv mv wv : Value) (l : List EnT) (mk who : List IdT) (g1 g2 : Nat) (V : World) : Prop := CK w lv wv l who g1 g2 V ∧ SI V mv mk

theorem CA.below {w V V' : World} {lv mv wv : Value} {l : List EnT} {mk who : List IdT} {g1 g2 : Nat} (h : CA w lv mv wv l mk who g1 g2 V) (hB : Below V.heap.size V V') : CA w lv mv wv l mk who g1 g2 V' := ⟨h.1.below hB, h.2.below hB⟩

set_option maxHeartbeats 4000000 in
theorem allows_walk (l : List EnT) (mk who : List IdT) (pm : Int) (m : EnT) (o : IdT) (la ma wa : Option Addr) (lc mc wc : Nat) (w : World) (hl : SE w (.slice la l.length lc) l) (hm : SI w (.slice ma mk.length mc) mk) (hw : SI w (.slice wa who.length wc) who) (n1 : l.length ≤ 2 ^ 62) (n2 : mk.length ≤ 2 ^ 62) (n3 : who.length ≤ 2 ^ 62) (ht : Tab w) (hg0 : 0 < w.heap.size) :
    Calls Tryd.prog 4 #[.agg #[.slice la l.length lc, .slice ma mk.length mc, .int .i8 pm, .slice wa who.length wc, .int .i8 m.1, .string m.2.1, .string m.2.2, .string o.1, .string o.2]] w fun e w' => e = .returned (.bool true) ∧ Below w.heap.size w w' := by
  have HA : Hid (SE w (.slice la l.length lc) l ∧ SI w (.slice wa who.length wc) who ∧ SI w (.slice ma mk.length mc) mk ∧ Tab w ∧ 0 < w.heap.size) := ⟨hl, hw, hm, ht, hg0⟩
  have HLg : Hid (∀ V, Below w.heap.size w V → Calls Tryd.prog 5 #[.slice la l.length lc, .slice wa who.length wc] V fun e w' => ∃ r, e = .returned (.bool r) ∧ Hid ((r = false → bulkE l + bulkI who ≤ 1073741823) ∧ Below w.heap.size w w')) := fun V hV =>
    (long6_any _ _ l who V (hl.below hV) (hw.below hV) n1 n3).mono (fun e w' hh => by
      obtain ⟨r, rfl, hr, k, rfl⟩ := hh
      exact ⟨r, rfl, hr, below_drewN hV _⟩)
  have HLm : Hid (∀ V, Below w.heap.size w V → Calls Tryd.prog 5 #[.slice none 0 0, .slice ma mk.length mc] V fun e w' => ∃ r, e = .returned (.bool r) ∧ Hid ((r = false → bulkI mk ≤ 1073741823) ∧ Below w.heap.size w w')) := fun V hV =>
    (long6_any _ _ [] mk V ⟨none, 0, rfl, Nat.le_refl _, fun h => absurd rfl h⟩ (hm.below hV) (by simp) n2).mono (fun e w' hh => by
      obtain ⟨r, rfl, hr, k, rfl⟩ := hh
      exact ⟨r, rfl, (fun h => by have := hr h; simp [bulkE, bulkI] at this; exact this), below_drewN hV _⟩)
  have HW0 : Hid (Below w.heap.size w (w.alloc (.cells #[.slice la l.length lc, .slice ma mk.length mc, .int .i8 pm, .slice wa who.length wc, .int .i8 m.1, .string m.2.1, .string m.2.2, .string o.1, .string o.2] 41))) := (Below.refl _ _).alloc (Nat.le_refl _) _
  clear hl hm hw ht hg0 n1 n2 n3
  go_enter Tryd.func4, Tryd.ntmps4
  go_wp2_with fail
  go_at_call 5
  refine (HLg.out _ HW0.out).mono ?_
  rintro e w1 ⟨r, rfl, H1⟩
  clear HLg HW0
  cases r
  rotate_left
  · go_wp2
    go_ret
    exact ⟨rfl, H1.out.2⟩
  have HK1 : Hid (bulkE l + bulkI who ≤ 1073741823) := H1.out.1 rfl
  have HW1 : Hid (Below w.heap.size w w1) := H1.out.2
  clear H1
  go_wp2_with fail
  go_at_call 5
  refine (HLm.out _ HW1.out).mono ?_
  rintro e w2 ⟨r, rfl, H2⟩
  clear HLm HW1
  cases r
  rotate_left
  · go_wp2
    go_ret
    exact ⟨rfl, H2.out.2⟩
  have HK2 : Hid (bulkI mk ≤ 1073741823) := H2.out.1 rfl
  have HW2 : Hid (Below w.heap.size w w2) := H2.out.2
  clear H2
  have HZ1 : Hid (∀ x ∈ l, x.2.2.size ≤ 4294967296) := fun x hx => by
    have := bulkI_mem (List.mem_map_of_mem (f := Prod.snd) hx)
    have hbk := HK1.out
    unfold bulkE at hbk
    omega
  have HZ2 : Hid (∀ x ∈ who, x.2.size ≤ 4294967296) := fun x hx => by
    have := bulkI_mem hx; have := HK1.out; omega
  have HZ3 : Hid (∀ x ∈ mk, x.2.size ≤ 4294967296) := fun x hx => by
    have := bulkI_mem hx; have := HK2.out; omega
  have hn1 : l.length ≤ 1073741823 := by
    have := bulkI_len (l.map Prod.snd)
    rw [List.length_map] at this
    have hbk := HK1.out
    unfold bulkE at hbk
    omega
  have hn3 : who.length ≤ 1073741823 := by have := bulkI_len who; have := HK1.out; omega
  clear HK1 HK2
  go_wp2_with fail
  go_at_call 16
  refine (lives6_yes _).mono ?_
  rintro e w3 ⟨rfl, hB⟩
  have HA1 : Hid (SE w3 (.slice la l.length lc) l ∧ SI w3 (.slice wa who.length wc) who ∧ SI w3 (.slice ma mk.length mc) mk ∧ Tab w3 ∧ 0 < w3.heap.size ∧ Below w.heap.size w w3) := by
    obtain ⟨a1, a2, a3, a4, a5⟩ := HA.out
    have b := HW2.out.trans (hB.mono HW2.out.size)
    exact ⟨a1.below b, a2.below b, a3.below b, (a4.next a5 b).1, (a4.next a5 b).2, b⟩
  clear hB HW2 HA
  go_wp2_with fail
  go_at_call 6
  refine (wideAcl_any _ l w3 HA1.out.1 (by omega) HA1.out.2.2.2.1 HA1.out.2.2.2.2.1).mono ?_
  rintro e w4 ⟨rfl, hwd, hB⟩
  obtain ⟨g1, hg1⟩ : ∃ g1, g1 = w3.heap.size := ⟨_, rfl⟩
  rw [← hg1] at hwd ⊢
  have HA2 : Hid (SE w4 (.slice la l.length lc) l ∧ SI w4 (.slice wa who.length wc) who ∧ SI w4 (.slice ma mk.length mc) mk ∧ WideE w4 g1 l ∧ Tab w4 ∧ 0 < w4.heap.size ∧ Below w.heap.size w w4) := by
    obtain ⟨a1, a2, a3, a4, a5, a6⟩ := HA1.out
    exact ⟨a1.below hB, a2.below hB, a3.below hB, hwd, (a4.next a5 hB).1, (a4.next a5 hB).2, a6.trans (hB.mono a6.size)⟩
  clear hwd hB HA1 hg1
  go_wp2_with fail
  go_at_call 7
  refine (wideIds_any _ who w4 HA2.out.2.1 (by omega) HA2.out.2.2.2.2.1 HA2.out.2.2.2.2.2.1).mono ?_
  rintro e w5 ⟨rfl, hwd, hB⟩
  obtain ⟨g2, hg2⟩ : ∃ g2, g2 = w4.heap.size := ⟨_, rfl⟩
  rw [← hg2] at hwd ⊢
  have H5 : Hid (CA w (.slice la l.length lc) (.slice ma mk.length mc) (.slice wa who.length wc) l mk who g1 g2 w5) := by
    obtain ⟨a1, a2, a3, a4, a5, a6, a7⟩ := HA2.out
    exact ⟨⟨a1.below hB, a2.below hB, a4.below hB, hwd, (a5.next a6 hB).1, (a5.next a6 hB).2, a7.trans (hB.mono a7.size)⟩, a3.below hB⟩
  clear hwd hB HA2 hg2
  obtain ⟨CV, hCV⟩ : ∃ CV : World → Prop, CV = CA w (.slice la l.length lc) (.slice ma mk.length mc) (.slice wa who.length wc) l mk who g1 g2 := ⟨_, rfl⟩
  have HCV : Hid (∀ V, CV V → CA w (.slice la l.length lc) (.slice ma mk.length mc) (.slice wa who.length wc) l mk who g1 g2 V) := fun V h => by rw [hCV] at h; exact h
  have HBV : Hid (∀ V V', CV V → Below V.heap.size V V' → CV V') := fun V V' h hB => by rw [hCV] at h ⊢; exact h.below hB
  have HX5 : Hid (CV w5) := by show CV w5; rw [hCV]; exact H5.out
  clear hCV H5
  obtain ⟨A, hA⟩ : ∃ A, A = alB l pm who := ⟨_, rfl⟩
  have HAa : Hid (∀ V, CV V → Calls Tryd.prog 17 #[.slice (some ⟨g1, 0, none⟩) l.length (l.length + 64), .int .i8 pm, .slice (some ⟨g2, 0, none⟩) who.length (who.length + 64)] V fun e w' => e = .returned (.bool A) ∧ Hid (CV w')) := fun V hV => by
    have c := (HCV.out V hV).1
    exact (allows_all _ _ l pm who V c.2.2.1.sees c.2.2.2.1.sees HZ1.out HZ2.out).mono (fun e w' hh => ⟨by rw [hh.1, hA], HBV.out V w' hV hh.2⟩)
  have HAr : Hid (∀ V, CV V → Calls Tryd.prog 19 #[.slice la l.length lc, .int .i8 pm, .slice wa who.length wc] V fun e w' => e = .returned (.bool A) ∧ Hid (Below V.heap.size V w')) := fun V hV => by
    have c := (HCV.out V hV).1
    exact (refAllows_any _ _ l pm who V c.1 c.2.1 (by omega) HZ1.out HZ2.out).mono (fun e w' hh => ⟨by rw [hh.1, hA], hh.2⟩)
  clear hA
  have hAA : (A != A) = false := by simp
  go_wp2_with fail
  go_at_call 17
  refine (HAa.out _ HX5.out).mono ?_
  rintro e w6 ⟨rfl, HX6⟩
  clear HX5 HAa
  have HFx := refFix_any (.slice la l.length lc) (.slice ma mk.length mc) l mk w6 (HCV.out _ HX6.out).1.1 (HCV.out _ HX6.out).2 HZ1.out HZ3.out
  go_wp2_with fail
  go_at_call 18
  refine HFx.mono ?_
  rintro e w7 ⟨⟨fv, rfl, ho⟩, hB⟩
  have HX7 : Hid (CV w7) := HBV.out _ _ HX6.out hB
  have HEqA : Hid (∀ V, CV V → Calls Tryd.prog 12 #[.slice (some ⟨g1, 0, none⟩) l.length (l.length + 64), .slice la l.length lc] V fun e w' => e = .returned (.bool true) ∧ Hid (CV w')) := fun V hV => by
    have c := (HCV.out V hV).1
    exact (eqAcl_se _ _ l V c.2.2.1.sees c.1 (by omega)).mono (fun e w' hh => ⟨hh.1, by obtain ⟨k, rfl⟩ := hh.2; exact HBV.out V _ hV (below_drewN (Below.refl _ _) _)⟩)
  have HSpA : Hid (∀ V, CV V → Calls Tryd.prog 13 #[.slice (some ⟨g1, 0, none⟩) l.length (l.length + 64)] V fun e w' => e = .returned (.bool true) ∧ Hid (CV w')) := fun V hV => by
    have c := (HCV.out V hV).1
    exact (spareAcl_any g1 l V c.2.2.1 (by omega) c.2.2.2.2.1 c.2.2.2.2.2.1).mono (fun e w' hh => ⟨hh.1, HBV.out V _ hV hh.2⟩)
  have HEqI : Hid (∀ V, CV V → Calls Tryd.prog 14 #[.slice (some ⟨g2, 0, none⟩) who.length (who.length + 64), .slice wa who.length wc] V fun e w' => e = .returned (.bool true) ∧ Hid (CV w')) := fun V hV => by
    have c := (HCV.out V hV).1
    exact (eqIds_se _ _ who V c.2.2.2.1.sees c.2.1 (by omega)).mono (fun e w' hh => ⟨hh.1, by obtain ⟨k, rfl⟩ := hh.2; exact HBV.out V _ hV (below_drewN (Below.refl _ _) _)⟩)
  have HSpI : Hid (∀ V, CV V → Calls Tryd.prog 15 #[.slice (some ⟨g2, 0, none⟩) who.length (who.length + 64)] V fun e w' => e = .returned (.bool true) ∧ Hid (CV w')) := fun V hV => by
    have c := (HCV.out V hV).1
    exact (spareIds_any g2 who V c.2.2.2.1 (by omega) c.2.2.2.2.1 c.2.2.2.2.2.1).mono (fun e w' hh => ⟨hh.1, HBV.out V _ hV hh.2⟩)
  have HEnd : Hid (∀ V, CV V → Below w.heap.size w V) := fun V hV => (HCV.out V hV).1.2.2.2.2.2.2
  clear hB HFx HX6
  obtain ⟨f, hff⟩ : ∃ f, f = (fixA l mk).getD [] := ⟨_, rfl⟩
  rw [← hff] at ho
  have HZf : Hid (∀ x ∈ f, x.2.2.size ≤ 4294967296) := by
    rw [hff]
    cases h : fixA l mk with
    | none => intro x hx; simp at hx
    | some f0 => exact fixA_mem (Q := fun y => y.2.size ≤ 4294967296) HZ1.out HZ3.out (by decide) h
  have HLf : Hid (f.length ≤ 4) := by
    rw [hff]
    cases h : fixA l mk with
    | none => exact Nat.zero_le _
    | some f0 => exact ((enLs_iff f0).1 ((fxLs_iff f0).1 (fixA_fixed h)).1).1
  have HSf : Hid (SE w7 fv f) := SE_owns ho
  obtain ⟨fo, fl, fc, rfl⟩ : ∃ fo fl fc, fv = .slice fo fl fc := by
    obtain ⟨_, ⟨rfl, _⟩ | ⟨g, cap, cur, rfl, _⟩⟩ := ho
    · exact ⟨_, _, _, rfl⟩
    · exact ⟨_, _, _, rfl⟩
  obtain ⟨Bv, hBv⟩ : ∃ Bv, Bv = alB f pm who := ⟨_, rfl⟩
  have HAb : Hid (Calls Tryd.prog 17 #[.slice fo fl fc, .int .i8 pm, .slice (some ⟨g2, 0, none⟩) who.length (who.length + 64)] w7 fun e w' => e = .returned (.bool Bv) ∧ Hid (CV w' ∧ SE w' (.slice fo fl fc) f)) := by
    have c := (HCV.out _ HX7.out).1
    exact (allows_all _ _ f pm who w7 HSf.out c.2.2.2.1.sees HZf.out HZ2.out).mono (fun e w' hh => ⟨by rw [hh.1, hBv], HBV.out _ w' HX7.out hh.2, HSf.out.below hh.2⟩)
  have HAc : Hid (∀ V, CV V → SE V (.slice fo fl fc) f → Calls Tryd.prog 19 #[.slice fo fl fc, .int .i8 pm, .slice wa who.length wc] V fun e w' => e = .returned (.bool Bv) ∧ Hid (CV w')) := fun V hV hS => by
    have c := (HCV.out V hV).1
    exact (refAllows_any _ _ f pm who V hS c.2.1 (by have := HLf.out; omega) HZf.out HZ2.out).mono (fun e w' hh => ⟨by rw [hh.1, hBv], HBV.out V w' hV hh.2⟩)
  clear hBv hff ho
  have hBB : (Bv != Bv) = false := by simp
  obtain ⟨ok, hok⟩ : ∃ ok, ok = (fixA l mk).isSome := ⟨_, rfl⟩
  rw [← hok]
  clear hok
  go_wp2_with fail
  go_at_call 17
  refine HAb.out.mono ?_
  rintro e w8 ⟨rfl, HX8⟩
  clear HAb HX7 HSf
  have HR1 := HAr.out w8 HX8.out.1
  go_wp2_with fail
  go_at_call 19
  refine HR1.mono ?_
  rintro e w9 ⟨rfl, hB⟩
  have HX9 : Hid (CV w9 ∧ SE w9 (.slice fo fl fc) f) := ⟨HBV.out _ _ HX8.out.1 hB.out, HX8.out.2.below hB.out⟩
  clear HR1 hB HX8 HAr
  cases ok
  · go_wp2_with fail
    go_at_call 12
    refine (HEqA.out _ HX9.out.1).mono ?_
    rintro e wy0 ⟨rfl, HY0⟩
    clear HEqA
    go_wp2_with fail
    go_at_call 13
    refine (HSpA.out _ HY0.out).mono ?_
    rintro e wy1 ⟨rfl, HY1⟩
    clear HSpA
    go_wp2_with fail
    go_at_call 14
    refine (HEqI.out _ HY1.out).mono ?_
    rintro e wy2 ⟨rfl, HY2⟩
    clear HEqI
    go_wp2_with fail
    go_at_call 15
    refine (HSpI.out _ HY2.out).mono ?_
    rintro e wy3 ⟨rfl, HY3⟩
    clear HSpI
    go_wp2
    go_ret
    exact ⟨rfl, HEnd.out _ HY3.out⟩
  · have HR2 := HAc.out w9 HX9.out.1 HX9.out.2
    go_wp2_with fail
    go_at_call 19
    refine HR2.mono ?_
    rintro e w10 ⟨rfl, HX10⟩
    clear HR2 HX9
    go_wp2_with fail
    go_at_call 12
    refine (HEqA.out _ HX10.out).mono ?_
    rintro e wy0 ⟨rfl, HY0⟩
    clear HEqA
    go_wp2_with fail
    go_at_call 13
    refine (HSpA.out _ HY0.out).mono ?_
    rintro e wy1 ⟨rfl, HY1⟩
    clear HSpA
    go_wp2_with fail
    go_at_call 14
    refine (HEqI.out _ HY1.out).mono ?_
    rintro e wy2 ⟨rfl, HY2⟩
    clear HEqI
    go_wp2_with fail
    go_at_call 15
    refine (HSpI.out _ HY2.out).mono ?_
    rintro e wy3 ⟨rfl, HY3⟩
    clear HSpI
    go_wp2
    go_ret
    exact ⟨rfl, HEnd.out _ HY3.out⟩

end Go.Proofs.YtjakjbfeaiempaaDoor
