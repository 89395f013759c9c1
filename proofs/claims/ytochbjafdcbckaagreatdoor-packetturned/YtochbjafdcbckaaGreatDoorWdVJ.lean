/- Check of the document's layer 4, for every transaction. -/
import Derived.Test.YtochbjafdcbckaaGreatDoorWdTJ
namespace Go.Proofs.YtochbjafdcbckaaGreatDoor
open Go.RowKit
set_option maxRecDepth 8000

set_option maxHeartbeats 4000000 in
theorem refCheck_any (cs : List Value) (t : TxD) (w : World) (h : SeesTx w cs t) (hg : t.good) :
    Calls Tryz.prog 25 #[.agg cs.toArray] w fun r w' => r = .returned (.int .i64 (if txOk t then 0 else 40)) ∧ Below w.heap.size w w' := by
  obtain ⟨E, hE⟩ : ∃ E : Int, E = (if txOk t then 0 else 40) := ⟨_, rfl⟩
  rw [← hE]
  rw [txOk_ref] at hE
  obtain ⟨rc, rfl, hr⟩ := h
  obtain ⟨ep, tn, srv, boot, num, rq⟩ := t
  obtain ⟨h1, h2, h3, h4, h5, h6, h7, h8, h9, h10, hgr⟩ := hg
  simp only at h1 h2 h3 h4 h5 h6 h7 h8 h9 h10 hgr hr hE
  cases rq with
  | mk f n ops =>
    have HX : Hid (∀ W : World, Below w.heap.size w W → Calls Tryz.prog 41 #[.agg rc.toArray] W fun r w' => r = .returned (.int .i64 (if (Rq.mk f n ops).refOk then 0 else 40)) ∧ Below W.heap.size W w') := fun W hW =>
      refCheckRequest_any f n ops rc W (hr.later hW (Nat.le_refl _)) hgr
    obtain ⟨dv, av, wv, ov, oc, rfl, hd, ha, hw, ho, _⟩ := rq_inv hr
    have hkk : (Rq.mk f n ops).f.kind = f.kind := rfl
    simp only [hkk] at hE
    have gk0 := hgr.1.k0
    have gk1 := hgr.1.k1
    generalize (Rq.mk f n ops).refOk = R at *
    obtain ⟨kind, path, data, acl, ver, eph, seq, ses, tmo, who⟩ := f
    simp only at hd ha hw gk0 gk1 hE
    obtain ⟨da, dl, dc, rfl⟩ := sees_form hd
    obtain ⟨aa, al, ac, rfl⟩ := seesR_form ha
    obtain ⟨wa, wl, wc', rfl⟩ := seesR_form hw
    obtain ⟨oa, ol, occ, rfl⟩ := seesR_form ho
    clear hd ha hw ho hr hkk hgr
    simp only [rqCells] at HX
    simp only [rqCells, txHead, List.cons_append, List.nil_append]
    obtain ⟨F, hF⟩ : ∃ F : Int, F = (if R then 0 else 40) := ⟨_, rfl⟩
    rw [← hF] at HX
    have HB : Hid (∀ o, Below w.heap.size w (w.alloc o)) := fun o => one_alloc w o
    have HY : Hid (∀ o, Calls Tryz.prog 41 #[.agg #[.int .i8 kind, .string path, .slice da dl dc, .slice aa al ac, .int .i32 ver, .bool eph, .bool seq, .int .i64 ses, .int .i32 tmo, .slice wa wl wc', .slice oa ol occ]] (w.alloc o) fun r w' => r = .returned (.int .i64 F) ∧ Below w.heap.size w w') := fun o => by
      refine (HX.out _ (HB.out o)).mono ?_
      rintro _ w1 ⟨rfl, b⟩
      exact ⟨rfl, (HB.out o).trans (b.mono (HB.out o).size)⟩
    clear HX
    have hz : (zxOk ep tn = false ∧ ((ep = 0 ∧ 1 ≤ tn) ∨ (1 ≤ ep ∧ ep ≤ 2147483647 ∧ tn = 0) ∨ 2147483647 < ep)) ∨ (zxOk ep tn = true ∧ ((ep = 0 ∧ tn = 0) ∨ (1 ≤ ep ∧ ep ≤ 2147483647 ∧ 1 ≤ tn))) := by
      unfold zxOk
      by_cases q : (ep = 0 ∧ tn = 0) ∨ (1 ≤ ep ∧ ep ≤ 2147483647 ∧ 1 ≤ tn)
      · right; exact ⟨decide_eq_true q, q⟩
      · left; exact ⟨decide_eq_false q, by omega⟩
    have hob : (origOk srv num = false ∧ (srv < 0 ∨ (0 ≤ srv ∧ 6 < srv) ∨ (0 ≤ srv ∧ srv ≤ 6 ∧ num < 0))) ∨ (origOk srv num = true ∧ 0 ≤ srv ∧ srv ≤ 6 ∧ 0 ≤ num) := by
      unfold origOk
      by_cases q : 0 ≤ srv ∧ srv < 7 ∧ 0 ≤ num
      · right; exact ⟨decide_eq_true q, by omega⟩
      · left; exact ⟨decide_eq_false q, by omega⟩
    have bE : (ep = 0 ∧ (ep == 0) = true ∧ (ep != 0) = false) ∨ (1 ≤ ep ∧ (ep == 0) = false ∧ (ep != 0) = true) := by
      by_cases q : ep = 0
      · left; subst q; exact ⟨rfl, rfl, rfl⟩
      · right; exact ⟨by omega, by simpa using q, by simpa using q⟩
    have bN : (tn = 0 ∧ (tn == 0) = true ∧ (tn != 0) = false) ∨ (1 ≤ tn ∧ (tn == 0) = false ∧ (tn != 0) = true) := by
      by_cases q : tn = 0
      · left; subst q; exact ⟨rfl, rfl, rfl⟩
      · right; exact ⟨by omega, by simpa using q, by simpa using q⟩
    rcases hz with ⟨z0, z1⟩ | ⟨z0, z1⟩
    · have hE2 : E = 40 := by rw [hE, z0]; rfl
      subst hE2
      clear hE hob z0 hF
      go_enter Tryz.func25, Tryz.ntmps25
      rcases bE with ⟨y1, y2, y3⟩ | ⟨y1, y2, y3⟩ <;> rcases bN with ⟨y4, y5, y6⟩ | ⟨y4, y5, y6⟩ <;> rcases z1 with ⟨z1, z2⟩ | ⟨z1, z2, z3⟩ | z1
      all_goals try (exfalso; omega)
      all_goals go_wp2_with fail
      all_goals go_ret
      all_goals exact ⟨rfl, HB.out _⟩
    · rw [z0] at hE
      clear z0
      rcases hob with ⟨o0, o1⟩ | ⟨o0, o1, o2, o3⟩
      · have hE2 : E = 40 := by rw [hE, o0]; rfl
        subst hE2
        clear hE o0 hF
        go_enter Tryz.func25, Tryz.ntmps25
        rcases bE with ⟨y1, y2, y3⟩ | ⟨y1, y2, y3⟩ <;> rcases bN with ⟨y4, y5, y6⟩ | ⟨y4, y5, y6⟩ <;> rcases z1 with ⟨z1, z2⟩ | ⟨z1, z2, z3⟩ <;> rcases o1 with o1 | ⟨o1, o2⟩ | ⟨o1, o2, o3⟩
        all_goals try (exfalso; omega)
        all_goals go_wp2_with fail
        all_goals go_ret
        all_goals exact ⟨rfl, HB.out _⟩
      · rw [o0] at hE
        clear o0
        by_cases hk : kind ≤ 8
        · have hE2 : E = F := by rw [hE, hF, decide_eq_true hk]; simp
          subst hE2
          clear hE hF
          go_enter Tryz.func25, Tryz.ntmps25
          rcases bE with ⟨y1, y2, y3⟩ | ⟨y1, y2, y3⟩ <;> rcases bN with ⟨y4, y5, y6⟩ | ⟨y4, y5, y6⟩ <;> rcases z1 with ⟨z1, z2⟩ | ⟨z1, z2, z3⟩
          all_goals try (exfalso; omega)
          all_goals
            go_wp2_with fail
            refine (HY.out _).mono ?_
            rintro _ w1 ⟨rfl, b⟩
            have HB1 : Hid _ := b
            clear b HY HB
            go_wp2_with fail
            go_ret
            exact ⟨rfl, HB1.out⟩
        · have hE2 : E = 40 := by rw [hE, decide_eq_false hk]; simp
          subst hE2
          clear hE hF
          go_enter Tryz.func25, Tryz.ntmps25
          rcases bE with ⟨y1, y2, y3⟩ | ⟨y1, y2, y3⟩ <;> rcases bN with ⟨y4, y5, y6⟩ | ⟨y4, y5, y6⟩ <;> rcases z1 with ⟨z1, z2⟩ | ⟨z1, z2, z3⟩
          all_goals try (exfalso; omega)
          all_goals go_wp2_with fail
          all_goals go_ret
          all_goals exact ⟨rfl, HB.out _⟩
end Go.Proofs.YtochbjafdcbckaaGreatDoor
