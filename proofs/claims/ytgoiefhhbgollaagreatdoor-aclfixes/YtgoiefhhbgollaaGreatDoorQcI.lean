/- What acl's Allows answers, for every list, all permissions and every client. -/
import Derived.Test.YtgoiefhhbgollaaGreatDoorQcH
namespace Go.Proofs.YtgoiefhhbgollaaGreatDoor
open Go.RowKit Go.Shelf
set_option maxRecDepth 8000

/-- What a list allows. -/
def alB (l : List EnT) (p : Int) (who : List IdT) : Bool := fxLs l && decide (0 ≤ p ∧ p ≤ 31) && idLs who && (bits .andNot .i8 p (grI who l) == 0)

set_option maxHeartbeats 1000000 in
theorem allows_any (v u : Value) (l : List EnT) (p : Int) (who : List IdT) (w : World) (h : SE w v l) (g : SI w u who) (hlen : l.length ≤ 1000) (glen : who.length ≤ 1000) (hsz : ∀ x ∈ l, x.2.2.size ≤ 4294967296) (gsz : ∀ x ∈ who, x.2.size ≤ 4294967296) : Calls Tryz.prog 18 #[v, .int .i8 p, u] w fun e w' => e = .returned (.bool (alB l p who)) ∧ Below w.heap.size w w' := by
  have HF : Hid (Calls Tryz.prog 50 #[v] w fun e w' => e = .returned (.bool (fxLs l)) ∧ Below w.heap.size w w') := isFixed_any v l w h hlen hsz
  have HP : Hid (∀ V : World, Calls Tryz.prog 51 #[.int .i8 p] V fun e w' => e = .returned (.bool (decide (0 ≤ p ∧ p ≤ 31))) ∧ w' = V) := isPerms_any p
  have HC : Hid (∀ V : World, Below w.heap.size w V → Calls Tryz.prog 24 #[u] V fun e w' => e = .returned (erV (idLs who)) ∧ Below w.heap.size w w') := fun V hV => (aclCheckIds u who V (g.below hV) gsz).mono (fun e w' hh => ⟨hh.1, hV.trans (hh.2.mono hV.size)⟩)
  have HG : Hid (∀ V : World, Below w.heap.size w V → Calls Tryz.prog 52 #[v, u] V fun e w' => e = .returned (.int .i8 (grI who l)) ∧ Hid (Below w.heap.size w w')) := fun V hV => (granted_any v u l who V (h.below hV) (g.below hV) hlen glen hsz gsz).mono (fun e w' hh => ⟨hh.1, hV.trans (hh.2.mono hV.size)⟩)
  generalize ha : alB l p who = ba
  unfold alB at ha
  generalize fxLs l = b1 at HF ha
  generalize decide (0 ≤ p ∧ p ≤ 31) = b2 at HP ha
  generalize idLs who = b3 at HC ha
  generalize grI who l = gr at HG ha
  clear h g hlen glen hsz gsz
  cases b1
  · have ha' : ba = false := by rw [← ha]; rfl
    subst ha'
    clear ha
    go_enter Tryz.func18, Tryz.ntmps18
    go_wp2_with (go_at_call 50; refine (HF.out).mono ?_; rintro e w1 ⟨rfl, hB⟩)
    all_goals (go_ret; exact ⟨rfl, hB⟩)
  cases b2
  · have ha' : ba = false := by rw [← ha]; rfl
    subst ha'
    clear ha
    go_enter Tryz.func18, Tryz.ntmps18
    go_wp2_with fail
    go_at_call 50
    refine (HF.out).mono ?_
    rintro e w1 ⟨rfl, hB⟩
    go_wp2_with (go_at_call 51; refine (HP.out _).mono ?_; rintro e w2 ⟨rfl, rfl⟩)
    all_goals (go_ret; exact ⟨rfl, hB⟩)
  cases b3
  · have ha' : ba = false := by rw [← ha]; rfl
    subst ha'
    clear ha
    go_enter Tryz.func18, Tryz.ntmps18
    go_wp2_with fail
    go_at_call 50
    refine (HF.out).mono ?_
    rintro e w1 ⟨rfl, hB⟩
    have HC1 : Hid (Calls Tryz.prog 24 #[u] w1 fun e w' => e = .returned (erV false) ∧ Below w.heap.size w w') := HC.out w1 hB
    clear hB
    go_wp2_with fail
    go_at_call 51
    refine (HP.out _).mono ?_
    rintro e w2 ⟨rfl, rfl⟩
    go_wp2_with (go_at_call 24; refine (HC1.out).mono ?_; rintro e w3 ⟨rfl, hB⟩)
    all_goals (go_ret; exact ⟨rfl, hB⟩)
  · have HA : Hid (ba = (bits .andNot .i8 p gr == 0)) := by show _ = _; rw [← ha]; rfl
    clear ha
    go_enter Tryz.func18, Tryz.ntmps18
    go_wp2_with fail
    go_at_call 50
    refine (HF.out).mono ?_
    rintro e w1 ⟨rfl, hB⟩
    have HC1 : Hid (Calls Tryz.prog 24 #[u] w1 fun e w' => e = .returned (erV true) ∧ Below w.heap.size w w') := HC.out w1 hB
    clear hB
    go_wp2_with fail
    go_at_call 51
    refine (HP.out _).mono ?_
    rintro e w2 ⟨rfl, rfl⟩
    go_wp2_with fail
    go_at_call 24
    refine (HC1.out).mono ?_
    rintro e w3 ⟨rfl, hB⟩
    have HG1 : Hid (Calls Tryz.prog 52 #[v, u] w3 fun e w' => e = .returned (.int .i8 gr) ∧ Hid (Below w.heap.size w w')) := HG.out w3 hB
    clear hB
    go_wp2_with fail
    go_at_call 52
    refine (HG1.out).mono ?_
    rintro e w4 ⟨rfl, HB⟩
    go_wp2
    all_goals (go_ret; exact ⟨by rw [HA.out]; rfl, HB.out⟩)

end Go.Proofs.YtgoiefhhbgollaaGreatDoor
