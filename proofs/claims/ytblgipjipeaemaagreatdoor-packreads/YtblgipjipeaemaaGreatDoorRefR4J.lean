/- The document's own Reader (lagoonref01): Raw. -/
import Derived.Test.YtblgipjipeaemaaGreatDoorPut3J
import Derived.Deep.CutRange
namespace Go.Proofs.YtblgipjipeaemaaGreatDoor
open Go.RowKit
set_option maxRecDepth 8000

section
variable (g : Nat) (v : Value) (bs : List Int) (p : Nat) (f : Int) (w : World)

/-- The piece of a slice from p on, m long. -/
def piece (ao : Option Addr) (p m cap : Nat) : Value := .slice (if cap = p then ao else ao.map (·.add p)) m (cap - p)

theorem run_piece (ao : Option Addr) (l cap p m : Nat) (h : p + m ≤ cap) (hc : cap ≤ 9223372036854775807) (w : World) : (Instr.slice 22 (.slice ao l cap) (some (.int .i64 p)) (some (.int .i64 (IntKind.i64.wrap ((p : Int) + (m : Int))))) none).run Tryz.prog w = .ok (piece ao p m cap) w := by
  have e : IntKind.i64.wrap ((p : Int) + (m : Int)) = (p : Int) + (m : Int) := by
    simp [IntKind.wrap, IntKind.bits, IntKind.signed]
    omega
  have ht : Tryz.prog.underlying 22 = some (.slice (Tryz.prog.elem 22)) := by kernel_rfl
  have hs : ∀ w, (sizeOf (Tryz.prog.elem 22)).run Tryz.prog w = .ok 1 w := fun w => by kernel_rfl
  rw [e, run_slice_lh w 22 ao l cap ht .i64 .i64 p ((p : Int) + (m : Int)) (by omega) (by omega) (by omega), hs]
  have e1 : ((p : Int) + (m : Int)).toNat = p + m := by omega
  simp only [Result.andThen, sliced, piece, Int.toNat_natCast, e1, Nat.mul_one]
  congr 2
  omega

theorem sees_piece {w : World} {ao : Option Addr} {bs : List Int} {cap : Nat} (h : Sees w (.slice ao bs.length cap) bs) {p m : Nat} (hp : p + m ≤ bs.length) : Sees w (piece ao p m cap) ((bs.drop p).take m) := by
  have hd := sees_drop h (n := p) (by omega)
  have hl : ((bs.drop p).take m).length = m := by rw [List.length_take, List.length_drop]; omega
  unfold cutFrom at hd
  obtain ⟨ao', cap', e, h1, h2, h3, h4⟩ := hd
  simp only at e
  have e2 : piece ao p m cap = .slice ao' m cap' := by
    unfold piece
    by_cases hc : cap = p
    · rw [if_pos hc] at e
      rw [if_pos hc]
      simp at e
      rw [← e.1, ← e.2, hc, Nat.sub_self]
    · rw [if_neg hc] at e
      rw [if_neg hc]
      simp at e
      rw [← e.1, ← e.2]
  rw [e2]
  refine ⟨ao', cap', by rw [hl], by rw [hl]; rw [List.length_drop] at h1; omega, h2, h3, ?_⟩
  rcases h4 with h4 | ⟨b, off, e', h4⟩
  · exact .inl (by rw [h4]; simp)
  · refine .inr ⟨b, off, e', fun i hi => ?_⟩
    rw [hl] at hi
    rw [h4 i (by rw [List.length_drop]; omega)]
    simp [List.getD_eq_getElem?_getD, hi]

set_option maxHeartbeats 1000000 in
theorem qRaw_any (n : Int) (h : IsQ w g v bs p f) : Calls Tryz.prog 49 #[.pointer (some ⟨g, 0, none⟩), .int .i64 n] w fun e w' => ∃ u, e = .returned u ∧ Owns w' w.heap.size u (rdRaw n (bs.drop p) f).1 ∧ QTo w g v bs (rdRaw n (bs.drop p) f).2 w' := by
  have c0 := h.c0
  have c1 := h.c1
  have c2 := h.c2
  have f2 := h.fr 2
  have H : Hid (IsQ w g v bs p f) := h
  obtain ⟨ao, cap, rfl, q1, q2, _, h3⟩ := h.2.1
  unfold maxLen at q2
  have hp := h.2.2.1
  have hl := h.2.2.2.1
  have hdl : (bs.drop p).length = bs.length - p := List.length_drop ..
  clear h h3
  by_cases hf : f = 0
  · subst hf
    by_cases hneg : n < 0
    · have e1 : rdRaw n (bs.drop p) 0 = ([], ⟨0, bs.drop p, 11⟩) := by unfold rdRaw; rw [if_neg (by simp), if_pos hneg]
      rw [e1]
      clear e1
      have HR : Hid (QTo w g (.slice ao bs.length cap) bs ⟨0, bs.drop p, 11⟩ (w.setCell ⟨g, 2, none⟩ (.int .i64 11))) := ⟨p, rfl, H.out.set2 11, (Kept.refl w (fun x => x = g)).setCell ⟨g, 2, none⟩ _ (fun _ => rfl)⟩
      go_enter Tryz.func49, Tryz.ntmps49
      go_wp2
      go_ret
      exact ⟨_, rfl, World.ownsRow_nil _ _ _ _, HR.out⟩
    · obtain ⟨m, rfl⟩ : ∃ m : Nat, n = (m : Int) := ⟨n.toNat, by omega⟩
      by_cases hs : bs.length - p < m
      · have e1 : rdRaw m (bs.drop p) 0 = ([], ⟨0, bs.drop p, 10⟩) := by unfold rdRaw; rw [if_neg (by simp), if_neg hneg, if_pos (by omega)]
        rw [e1]
        clear e1 hneg
        have hb1 : decide ((bs.length : Int) - (p : Int) < (m : Int)) = true := by simp; omega
        go_enter Tryz.func49, Tryz.ntmps49
        go_wp2
        go_quiet (fail)
        have HR : Hid (QTo w g (.slice ao bs.length cap) bs ⟨0, bs.drop p, 10⟩ ((w.drewN nq).setCell ⟨g, 2, none⟩ (.int .i64 10))) := ⟨p, rfl, (H.out.kept ((Kept.refl w (fun _ => False)).drewN nq) (fun h => h) (fun _ _ h => h)).set2 10, ((Kept.refl w (fun x => x = g)).drewN nq).setCell ⟨g, 2, none⟩ _ (fun _ => rfl)⟩
        go_wp2
        go_ret
        exact ⟨_, rfl, World.ownsRow_nil _ _ _ _, HR.out⟩
      · have e1 : rdRaw m (bs.drop p) 0 = ((bs.drop p).take m, ⟨0, (bs.drop p).drop m, 0⟩) := by unfold rdRaw; rw [if_neg (by simp), if_neg hneg, if_neg (by omega)]; rfl
        rw [e1]
        clear e1 hneg
        have hb1 : decide ((bs.length : Int) - (p : Int) < (m : Int)) = false := by simp; omega
        have hsl := fun w => run_piece ao bs.length cap p m (by omega) (by omega) w
        have HSP : Hid (p + m ≤ bs.length) := by show p + m ≤ bs.length; omega
        go_enter Tryz.func49, Tryz.ntmps49
        go_wp2
        go_quiet (fail)
        go_wp2_with fail
        have r0 : ((w.drewN nq).drew).cell? ⟨g, 0, none⟩ = some (.slice ao bs.length cap) := c0
        have r1 : ((w.drewN nq).drew).cell? ⟨g, 1, none⟩ = some (.int .i64 p) := c1
        have HQ1 : Hid (IsQ (w.drewN nq).drew g (.slice ao bs.length cap) bs p 0) := H.out.kept (((Kept.refl w (fun _ => False)).drewN nq).drewN 1) (fun h => h) (fun _ _ h => h)
        go_cut [5] from 31 to 46 (fun u wx => (∃ a n c, u = .slice a n c) ∧ Owns wx w.heap.size u ((bs.drop p).take m) ∧ IsQ wx g (.slice ao bs.length cap) bs p 0 ∧ Kept w wx (fun _ => False))
        case first =>
          go_region_held (fun w' => w'.cell? ⟨g, 0, none⟩ = some (.slice ao bs.length cap) ∧ w'.cell? ⟨g, 1, none⟩ = some (.int .i64 p)) (first | exact ⟨r0, r1⟩ | exact ⟨t0, t1⟩)
            (first | (go_at_call 10; refine (copyBytes_any _ ((bs.drop p).take m) _ (sees_piece HQ1.out.2.1 HSP.out) ?_).mono ?_; (rw [List.length_take]; omega); rintro e w3 ⟨u, rfl, ho3, hb3⟩; have HQ3 : Hid (Owns w3 w.heap.size u ((bs.drop p).take m) ∧ IsQ w3 g (.slice ao bs.length cap) bs p 0 ∧ Kept w w3 (fun _ => False)) := ⟨ho3, HQ1.out.kept (news hb3) (fun h => h) (fun _ _ h => h), (((Kept.refl w (fun _ => False)).drewN nq).drewN 1).trans (news hb3) (fun _ _ h => h)⟩; have t0 := HQ3.out.2.1.c0; have t1 := HQ3.out.2.1.c1; obtain ⟨ua, un, uc, rfl⟩ := owns_shape ho3; clear ho3 hb3))
          all_goals (go_wp2_with fail)
          all_goals go_meet
          all_goals exact ⟨⟨_, _, _, rfl⟩, HQ3.out⟩
        case rest =>
          obtain ⟨⟨ua, un, uc, rfl⟩, ho, hq, hk⟩ := hcut
          have d1 := hq.c1
          have df := hq.fr 1
          have e : (p : Int) + (m : Int) = ((p + m : Nat) : Int) := by omega
          have HR : Hid (Owns (wc.setCell ⟨g, 1, none⟩ (.int .i64 ((p : Int) + (m : Int)))) w.heap.size (.slice ua un uc) ((bs.drop p).take m) ∧ QTo w g (.slice ao bs.length cap) bs ⟨0, (bs.drop p).drop m, 0⟩ (wc.setCell ⟨g, 1, none⟩ (.int .i64 ((p : Int) + (m : Int))))) := by
            have hks : Kept wc (wc.setCell ⟨g, 1, none⟩ (.int .i64 ((p : Int) + (m : Int)))) (fun x => x = g) := (Kept.refl wc (fun x => x = g)).setCell ⟨g, 1, none⟩ _ (fun _ => rfl)
            refine ⟨Owns.kept ho hks (fun k hk' e' => ?_), p + m, by rw [List.drop_drop], ?_, (hk.mono (fun _ _ h => h.elim)).trans hks (fun _ _ h => h)⟩
            · subst e'
              have h1 := (ho.lt k hk').1
              have h2 := lt_of_block H.out.1
              omega
            · rw [e]; exact hq.set1 HSP.out
          clear ho hq hk e
          go_wp2
          go_ret
          exact ⟨_, rfl, HR.out⟩
  · have e1 : rdRaw n (bs.drop p) f = ([], ⟨0, bs.drop p, f⟩) := by unfold rdRaw; rw [if_pos hf]
    rw [e1]
    have hb3 : (f != 0) = true := by simp [hf]
    clear hf e1
    go_enter Tryz.func49, Tryz.ntmps49
    go_wp2
    go_ret
    exact ⟨_, rfl, World.ownsRow_nil _ _ _ _, QTo.stay H.out 0⟩

end
end Go.Proofs.YtblgipjipeaemaaGreatDoor
