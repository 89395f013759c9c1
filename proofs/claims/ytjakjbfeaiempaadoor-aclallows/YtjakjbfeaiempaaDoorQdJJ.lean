/- The walk of AclChecks: every list of entries, every client's ids. -/
import Derived.Test.YtjakjbfeaiempaaDoorMarkSJ
import Derived.Test.YtjakjbfeaiempaaDoorQdHJ
import Derived.Test.YtjakjbfeaiempaaDoorQdIJ
import Derived.Test.YtjakjbfeaiempaaDoorQcNJ
namespace Go.Proofs.YtjakjbfeaiempaaDoor
open Go.RowKit Go.Shelf
set_option maxRecDepth 8000

/-- What the law has in memory: both lists as they came, and wide ones of its own. -/
def CK (w : World) (lv wv : Value) (l : List EnT) (who : List IdT) (g1 g2 : Nat) (V : World) : Prop := SE V lv l ∧ SI V wv who ∧ WideE V g1 l ∧ WideI V g2 who ∧ Tab V ∧ 0 < V.heap.size ∧ Below w.heap.size w V

theorem Tab.next {w w' : World} (h : Tab w) (hg : 0 < w.heap.size) (hB : Below w.heap.size w w') : Tab w' ∧ 0 < w'.heap.size := ⟨h.below hB hg, Nat.lt_of_lt_of_le hg hB.size⟩

theorem CK.below {w V V' : World} {lv wv : Value} {l : List EnT} {who : List IdT} {g1 g2 : Nat} (h : CK w lv wv l who g1 g2 V) (hB : Below V.heap.size V V') : CK w lv wv l who g1 g2 V' := by
  obtain ⟨h1, h2, h3, h4, h5, h6, h7⟩ := h
  exact ⟨h1.below hB, h2.below hB, h3.below hB, h4.below hB, (h5.next h6 hB).1, (h5.next h6 hB).2, h7.trans (hB.mono h7.size)⟩

set_option maxHeartbeats 2000000 in
theorem checks_walk (l : List EnT) (who : List IdT) (la wa : Option Addr) (lc wc : Nat) (w : World) (hl : SE w (.slice la l.length lc) l) (hw : SI w (.slice wa who.length wc) who) (n1 : l.length ≤ 2 ^ 62) (n3 : who.length ≤ 2 ^ 62) (ht : Tab w) (hg0 : 0 < w.heap.size) :
    Calls Tryd.prog 3 #[.slice la l.length lc, .slice wa who.length wc] w fun e w' => e = .returned (.bool true) ∧ Below w.heap.size w w' := by
  have HLg : Hid (Calls Tryd.prog 5 #[.slice la l.length lc, .slice wa who.length wc] w fun e w' => ∃ r, e = .returned (.bool r) ∧ Hid ((r = false → bulkE l + bulkI who ≤ 1073741823) ∧ Below w.heap.size w w')) :=
    (long6_any _ _ l who w hl hw n1 n3).mono (fun e w' hh => by
      obtain ⟨r, rfl, hr, k, rfl⟩ := hh
      exact ⟨r, rfl, hr, below_drewN (Below.refl _ _) _⟩)
  have HA : Hid (SE w (.slice la l.length lc) l ∧ SI w (.slice wa who.length wc) who ∧ Tab w ∧ 0 < w.heap.size) := ⟨hl, hw, ht, hg0⟩
  clear hl hw ht hg0 n1 n3
  go_enter Tryd.func3, Tryd.ntmps3
  go_wp2_with fail
  go_at_call 5
  refine HLg.out.mono ?_
  rintro e w1 ⟨r, rfl, H1⟩
  clear HLg
  cases r
  rotate_left
  · go_wp2
    go_ret
    exact ⟨rfl, H1.out.2⟩
  have hbk := H1.out.1 rfl
  have HZ1 : Hid (∀ x ∈ l, x.2.2.size ≤ 4294967296) := fun x hx => by
    have := bulkI_mem (List.mem_map_of_mem (f := Prod.snd) hx)
    unfold bulkE at hbk
    omega
  have HZ2 : Hid (∀ x ∈ who, x.2.size ≤ 4294967296) := fun x hx => by
    have := bulkI_mem hx; omega
  have hn1 : l.length ≤ 1073741823 := by
    have := bulkI_len (l.map Prod.snd)
    rw [List.length_map] at this
    unfold bulkE at hbk
    omega
  have hn3 : who.length ≤ 1073741823 := by have := bulkI_len who; omega
  have HA1 : Hid (SE w1 (.slice la l.length lc) l ∧ SI w1 (.slice wa who.length wc) who ∧ Tab w1 ∧ 0 < w1.heap.size ∧ Below w.heap.size w w1) := by
    obtain ⟨a1, a2, a3, a4⟩ := HA.out
    exact ⟨a1.below H1.out.2, a2.below H1.out.2, (a3.next a4 H1.out.2).1, (a3.next a4 H1.out.2).2, H1.out.2⟩
  clear hbk H1 HA
  go_wp2_with fail
  go_at_call 6
  refine (wideAcl_any _ l w1 HA1.out.1 (by omega) HA1.out.2.2.1 HA1.out.2.2.2.1).mono ?_
  rintro e w2 ⟨rfl, hwd, hB⟩
  obtain ⟨g1, hg1⟩ : ∃ g1, g1 = w1.heap.size := ⟨_, rfl⟩
  rw [← hg1] at hwd ⊢
  have HA2 : Hid (SE w2 (.slice la l.length lc) l ∧ SI w2 (.slice wa who.length wc) who ∧ WideE w2 g1 l ∧ Tab w2 ∧ 0 < w2.heap.size ∧ Below w.heap.size w w2) := by
    obtain ⟨a1, a2, a3, a4, a5⟩ := HA1.out
    exact ⟨a1.below hB, a2.below hB, hwd, (a3.next a4 hB).1, (a3.next a4 hB).2, a5.trans (hB.mono a5.size)⟩
  clear hwd hB HA1 hg1
  go_wp2_with fail
  go_at_call 7
  refine (wideIds_any _ who w2 HA2.out.2.1 (by omega) HA2.out.2.2.2.1 HA2.out.2.2.2.2.1).mono ?_
  rintro e w3 ⟨rfl, hwd, hB⟩
  obtain ⟨g2, hg2⟩ : ∃ g2, g2 = w2.heap.size := ⟨_, rfl⟩
  rw [← hg2] at hwd ⊢
  have H3 : Hid (CK w (.slice la l.length lc) (.slice wa who.length wc) l who g1 g2 w3) := by
    obtain ⟨a1, a2, a3, a4, a5, a6⟩ := HA2.out
    exact ⟨a1.below hB, a2.below hB, a3.below hB, hwd, (a4.next a5 hB).1, (a4.next a5 hB).2, a6.trans (hB.mono a6.size)⟩
  clear hwd hB HA2 hg2
  go_wp2_with fail
  go_at_call 8
  refine (aclCheck _ l w3 H3.out.2.2.1.sees HZ1.out).mono ?_
  rintro e w4 ⟨rfl, hB⟩
  have H4 := H3.out.below hB
  have HH4 : Hid (CK w (.slice la l.length lc) (.slice wa who.length wc) l who g1 g2 w4) := H4
  clear hB H4 H3
  go_wp2_with fail
  go_at_call 9
  refine (aclCheckIds _ who w4 HH4.out.2.2.2.1.sees HZ2.out).mono ?_
  rintro e w5 ⟨rfl, hB⟩
  have HH5 : Hid (CK w (.slice la l.length lc) (.slice wa who.length wc) l who g1 g2 w5) := HH4.out.below hB
  clear hB HH4
  go_wp2_with fail
  go_at_call 10
  refine (refCheck_any _ l w5 HH5.out.1 HZ1.out).mono ?_
  rintro e w6 ⟨rfl, hB⟩
  have HH6 : Hid (CK w (.slice la l.length lc) (.slice wa who.length wc) l who g1 g2 w6) := HH5.out.below hB
  clear hB HH5
  generalize (if enLs l = true then (0 : Int) else 60) = ce
  have hce : (ce != ce) = false := by simp
  go_wp2_with fail
  go_at_call 11
  refine (refCheckIds_any _ who w6 HH6.out.2.1 HZ2.out).mono ?_
  rintro e w7 ⟨rfl, hB⟩
  have HH7 : Hid (CK w (.slice la l.length lc) (.slice wa who.length wc) l who g1 g2 w7) := HH6.out.below hB
  clear hB HH6
  generalize (if idLs who = true then (0 : Int) else 60) = cf
  have hcf : (cf != cf) = false := by simp
  go_wp2_with fail
  go_at_call 12
  refine (eqAcl_se _ _ l w7 HH7.out.2.2.1.sees HH7.out.1 (by omega)).mono ?_
  rintro e w8 ⟨rfl, hB⟩
  have HH8 : Hid (CK w (.slice la l.length lc) (.slice wa who.length wc) l who g1 g2 w8) := by
    obtain ⟨k, rfl⟩ := hB
    exact HH7.out.below (below_drewN (Below.refl _ _) _)
  clear hB HH7
  go_wp2_with fail
  go_at_call 13
  refine (spareAcl_any g1 l w8 HH8.out.2.2.1 (by omega) HH8.out.2.2.2.2.1 HH8.out.2.2.2.2.2.1).mono ?_
  rintro e w9 ⟨rfl, hB⟩
  have HH9 : Hid (CK w (.slice la l.length lc) (.slice wa who.length wc) l who g1 g2 w9) := HH8.out.below hB
  clear hB HH8
  go_wp2_with fail
  go_at_call 14
  refine (eqIds_se _ _ who w9 HH9.out.2.2.2.1.sees HH9.out.2.1 (by omega)).mono ?_
  rintro e w10 ⟨rfl, hB⟩
  have HH10 : Hid (CK w (.slice la l.length lc) (.slice wa who.length wc) l who g1 g2 w10) := by
    obtain ⟨k, rfl⟩ := hB
    exact HH9.out.below (below_drewN (Below.refl _ _) _)
  clear hB HH9
  go_wp2_with fail
  go_at_call 15
  refine (spareIds_any g2 who w10 HH10.out.2.2.2.1 (by omega) HH10.out.2.2.2.2.1 HH10.out.2.2.2.2.2.1).mono ?_
  rintro e w11 ⟨rfl, hB⟩
  have HH11 : Hid (CK w (.slice la l.length lc) (.slice wa who.length wc) l who g1 g2 w11) := HH10.out.below hB
  clear hB HH10
  go_wp2_with fail
  go_at_call 16
  refine (lives6_yes _).mono ?_
  rintro e w12 ⟨rfl, hB⟩
  have HH12 : Hid (CK w (.slice la l.length lc) (.slice wa who.length wc) l who g1 g2 w12) := HH11.out.below hB
  clear hB HH11
  go_wp2
  go_ret
  exact ⟨rfl, HH12.out.2.2.2.2.2.2⟩

end Go.Proofs.YtjakjbfeaiempaaDoor
