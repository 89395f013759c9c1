/- What Take and Double answer where there is none, what Double and Send do. -/
import Derived.Test.YtghngopclhhoeaaDoorLkEJ
namespace Go.Proofs.YtghngopclhhoeaaDoor
open Go.RowKit
set_option maxRecDepth 8000
set_option linter.unusedSimpArgs false
set_option linter.unusedVariables false

set_option maxHeartbeats 2000000 in
/-- Take of a place where there is none. -/
theorem take_no {w : World} {b : Nat} {n : Int} {v : Value} {l : List MsD} (h : Nt w b n v l) (p : Int) (hp : p < 0 ∨ (l.length : Int) ≤ p) :
    Calls Tryd.prog 13 #[.pointer (some ⟨b, 0, none⟩), .int .i64 p] w fun e w' => e = .returned (.tuple #[.agg #[.int .i8 0, .int .i8 0, .slice none 0 0, .bool false], .int .i64 220]) ∧ Below w.heap.size w w' := by
  obtain ⟨f1, f2, f3, f4, f5, f6⟩ := four_allocL w (.cells #[.pointer (some ⟨b, 0, none⟩)] 28) (.cells #[.int .i64 p] 3) (.cells #[.int .i8 0, .int .i8 0, .slice none 0 0, .bool false] 72) (.cells #[.int .i8 0, .int .i8 0, .slice none 0 0, .bool false] 72)
  have h4 := h.below f1
  have HW : Hid _ := with_no h4 p hp (.func (.func 52) #[] #[.pointer (some ⟨w.heap.size + 1 + 1 + 1, 0, none⟩), .pointer (some ⟨w.heap.size, 0, none⟩), .pointer (some ⟨w.heap.size + 1, 0, none⟩)])
  have HH : Hid _ := And.intro f1 (And.intro f4 (And.intro f5 f6))
  clear h h4 f1 f2 f3 f4 f5 f6
  go_enter Tryd.func13, Tryd.ntmps13
  go_wp2_with fail
  refine Calls.mono HW.out ?_
  rintro _ w2 ⟨rfl, k, rfl⟩
  obtain ⟨g1, g2, g3, g4⟩ := HH.out
  generalize ((((w.alloc (.cells #[.pointer (some ⟨b, 0, none⟩)] 28)).alloc (.cells #[.int .i64 p] 3)).alloc (.cells #[.int .i8 0, .int .i8 0, .slice none 0 0, .bool false] 72)).alloc (.cells #[.int .i8 0, .int .i8 0, .slice none 0 0, .bool false] 72)) = W4 at *
  have g1' : Below w.heap.size w (W4.drewN k) := below_drewN g1 k
  have g2' : (W4.drewN k).heap[w.heap.size + 1 + 1]? = _ := g2
  have g3' : (W4.drewN k).heap[w.heap.size + 1 + 1 + 1]? = _ := g3
  generalize W4.drewN k = w2 at *
  have f0 := fun j => frozen_of_row w2 (w.heap.size + 1 + 1) j _ _ g2'
  have hzr := lt_of_block g2'
  have t0 := cell_of_row w2 (w.heap.size + 1 + 1 + 1) 0 _ _ _ g3'
  have t1 := cell_of_row w2 (w.heap.size + 1 + 1 + 1) 1 _ _ _ g3'
  have t2 := cell_of_row w2 (w.heap.size + 1 + 1 + 1) 2 _ _ _ g3'
  have t3 := cell_of_row w2 (w.heap.size + 1 + 1 + 1) 3 _ _ _ g3'
  have r0 := cell_of_row w2 (w.heap.size + 1 + 1) 0 _ _ _ g2'
  have r1 := cell_of_row w2 (w.heap.size + 1 + 1) 1 _ _ _ g2'
  have r2 := cell_of_row w2 (w.heap.size + 1 + 1) 2 _ _ _ g2'
  have r3 := cell_of_row w2 (w.heap.size + 1 + 1) 3 _ _ _ g2'
  obtain ⟨hS, hK⟩ := set4L (V := w2) (O := w.heap.size + 1 + 1) (k := 0) (A := []) (Y := []) g2' rfl (.int .i8 0) (.int .i8 0) (.slice none 0 0) (.bool false)
  have HE : Hid (∃ w', w' = (((w2.setCell ⟨w.heap.size + 1 + 1, 0, none⟩ (.int .i8 0)).setCell ⟨w.heap.size + 1 + 1, 1, none⟩ (.int .i8 0)).setCell ⟨w.heap.size + 1 + 1, 2, none⟩ (.slice none 0 0)).setCell ⟨w.heap.size + 1 + 1, 3, none⟩ (.bool false) ∧ w'.heap[w.heap.size + 1 + 1]? = some (.cells #[.int .i8 0, .int .i8 0, .slice none 0 0, .bool false] 72 (0, 0)) ∧ Below w.heap.size w w') :=
    ⟨_, rfl, hS, ((Below.kept g1').trans (hK.mono (S' := fun k => w.heap.size ≤ k) (fun _ _ e => by omega)) (fun _ _ e => e)).below (Nat.le_refl _) (fun _ h => h)⟩
  clear HW HH hS hK g1 g2 g3 g4 g1' g2' g3'
  go_wp2
  obtain ⟨w', e, hr, hE⟩ := HE.out
  rw [← e]
  exact bodyPost_ret (ms_ret Tryd.results13 _ _ _ _ _ _ _ rfl rfl hr rfl) rfl ⟨rfl, hE⟩

theorem fn_put (args : Array Value) (w : World) : (callFunc 50 args).run Tryd.prog w = .ok (.enter 50 args) w := rfl

/-- Where the list lies. -/
theorem Nt.row {w : World} {b : Nat} {n : Int} {v : Value} {l : List MsD} (h : Nt w b n v l) {p : Nat} {x : MsD} (hx : l[p]? = some x) : ∃ g cap, v = .slice (some ⟨g, 0, none⟩) l.length cap ∧ MsAt w g (p * 4) x := by
  have hpl : p < l.length := (List.getElem?_eq_some_iff.1 hx).1
  obtain ⟨_, ⟨e, h0⟩ | ⟨g, c, cur, e, _⟩⟩ := h.ho
  · omega
  · obtain ⟨_, _, e2, _, _, hat⟩ := h.sm
    obtain ⟨gb, off, eo, hcs⟩ := hat (fun e => by subst e; simp at hpl)
    rw [e] at e2
    simp only [Value.slice.injEq] at e2
    rw [← e2.1] at eo
    simp only [Option.some.injEq, Addr.mk.injEq, and_true] at eo
    obtain ⟨rfl, rfl⟩ := eo
    have := hcs p x hx
    rw [Nat.zero_add] at this
    exact ⟨g, c, e, this⟩

theorem double_no {w : World} {b : Nat} {n : Int} {v : Value} {l : List MsD} (h : Nt w b n v l) (p : Int) (hp : p < 0 ∨ (l.length : Int) ≤ p) :
    Calls Tryd.prog 22 #[.pointer (some ⟨b, 0, none⟩), .int .i64 p] w fun e w' => e = .returned (.int .i64 220) ∧ ∃ k, w' = w.drewN k := by
  have HW : Hid _ := with_no h p hp (.func (.func 50) #[.pointer (some ⟨b, 0, none⟩)] #[])
  clear h
  go_enter Tryd.func22, Tryd.ntmps22
  go_wp2_with fail
  refine Calls.mono HW.out ?_
  rintro _ w2 ⟨rfl, k, rfl⟩
  go_wp2
  all_goals (go_ret; exact ⟨rfl, k, rfl⟩)

theorem double_yes {w : World} {b : Nat} {n : Int} {v : Value} {l : List MsD} (h : Nt w b n v l) {p : Nat} {m : MsD} (hm : l[p]? = some m) (hl : l.length ≤ 100000000) :
    Calls Tryd.prog 22 #[.pointer (some ⟨b, 0, none⟩), .int .i64 (p : Nat)] w fun e w' => e = .returned (.int .i64 0) ∧ ∃ v' R, Nt w' b n v' (l ++ [{ m with g := R, off := 0, c := m.bs.length }]) ∧ Kept w w' (fun k => k = b ∨ v.ownBlock = some k) ∧ NewRow w v v' ∧ w.heap.size ≤ R := by
  obtain ⟨g, cap, rfl, hat⟩ := h.row hm
  have hmm := h.hm m (List.mem_of_getElem? hm)
  have HW : Hid _ := with_yes h p (List.getElem?_eq_some_iff.1 hm).1 50 #[.pointer (some ⟨b, 0, none⟩)] #[] fn_put (put_anyL m h hat hmm.sees hmm.lo hmm.hi hmm.by' hl)
  clear h hat hmm hm hl
  go_enter Tryd.func22, Tryd.ntmps22
  go_wp2_with fail
  refine Calls.mono HW.out ?_
  rintro _ w2 ⟨rfl, hR⟩
  have HR : Hid _ := hR
  clear hR HW
  go_wp2
  all_goals (go_ret; exact ⟨rfl, HR.out⟩)

end Go.Proofs.YtghngopclhhoeaaDoor
