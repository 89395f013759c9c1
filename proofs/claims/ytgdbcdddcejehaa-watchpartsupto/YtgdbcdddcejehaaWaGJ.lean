/- What a board's All answers. -/
import Derived.Test.YtgdbcdddcejehaaWaDJ
import Derived.Maps.AppendAt
import Derived.Lib.SliceRun
import Derived.Lib.SlFresh
namespace Go.Proofs.Ytgdbcdddcejehaa
open Go.RowKit Go.Shelf
set_option maxRecDepth 8000

theorem sliceNil (ao : Option Addr) (n c : Nat) (w : World) : (binOp .eql 27 (.slice ao n c) (.slice none 0 0)).run Try.prog w = .ok (.bool ao.isNone) w := by
  cases ao <;> kernel_rfl

set_option maxHeartbeats 1000000 in
theorem clone_any {w : World} {v : Value} {l : List WaT} (ho : w.ownsRow 0 30 3 v l.length (waFlat l)) (hl : l.length ≤ 2000000000) :
    Calls Try.prog 27 #[v] w fun e w' => ∃ u, e = .returned u ∧ w'.ownsRow w.heap.size 30 3 u l.length (waFlat l) ∧ Below w.heap.size w w' := by
  have hn : ∀ ao n c, (binOp .eql 27 (.slice ao n c) (.slice none 0 0)).run Try.prog w = .ok (.bool ao.isNone) w := fun ao n c => sliceNil ao n c w
  obtain ⟨hx, ⟨rfl, h0⟩ | ⟨g, cap, cur, rfl, a2, a3, a4, a5, a6, a7⟩⟩ := ho
  · have hnil : l = [] := List.length_eq_zero_iff.1 h0
    subst hnil
    clear hx h0
    have hn0 := hn none 0 0
    clear hn
    go_enter Try.func27, Try.ntmps27
    go_wp2
    all_goals (go_ret; exact ⟨_, rfl, World.ownsRow_nil _ _ _ _, Below.refl _ _⟩)
  · have hn0 := hn (some ⟨g, 0, none⟩) l.length cap
    clear hn
    obtain ⟨i, hi, hz, hs, hby⟩ := infoX Try.infoWa
    have hB : Below w.heap.size w (w.alloc (.cells #[] 30)) := (Below.refl _ w).alloc (Nat.le_refl _) _
    have hown : (w.alloc (.cells #[] 30)).ownsRow w.heap.size 30 3 (.slice (some ⟨w.heap.size, 0, none⟩) 0 0) 0 [] := ⟨rfl, .inr ⟨w.heap.size, 0, #[], rfl, Nat.le_refl _, heap_alloc_new w _, Nat.le_refl _, Nat.zero_le _, rfl, rfl⟩⟩
    have hnews : ∀ j u, (waFlat l)[j]? = some u → (w.alloc (.cells #[] 30)).cell? ((⟨g, 0, none⟩ : Addr).add j) = some u := fun j u hj => by
      have a3' := (hB.block _ (lt_of_block a3)).trans a3
      rw [Addr.add_lit, Nat.zero_add, cell_of_row _ g j _ _ _ a3', ← Array.getElem?_toList]
      rw [← a7, List.getElem?_take] at hj
      split at hj
      · exact hj
      · cases hj
    obtain ⟨v', w', hr, h2, h3, h4, h5⟩ := run_append_own_at (P := Try.prog) (w.alloc (.cells #[] 30)) w.heap.size 27 27 30 i _ 3 32 Try.underlying27 hi hz hs hby rfl (by decide) (.slice (some ⟨w.heap.size, 0, none⟩) 0 0) 0 [] hown ⟨g, 0, none⟩ l.length cap (waFlat l) hx hnews (waFlat_cell l) (by unfold maxLen; omega) (by omega) hB.size
    have HR : Hid (w'.ownsRow w.heap.size 30 3 v' l.length (waFlat l) ∧ Below w.heap.size w w') := by
      refine ⟨?_, ⟨h3.os, h3.tape, h3.output, Nat.le_trans hB.size h3.size, fun k hk => ?_⟩⟩
      · rw [Nat.zero_add] at h2
        exact h2
      · rw [h3.block k (Nat.lt_of_lt_of_le hk hB.size) (fun e => by simp [Value.ownBlock] at e; omega)]
        exact hB.block k hk
    clear h2 h3 h4 h5 hnews hown hB hi hz hs hby a2 a3 a4 a5 a6 a7 hx
    go_enter Try.func27, Try.ntmps27
    go_wp2_with (at_builtin; refine Lib.wpList_append_run_sl _ rfl _ _ 27 rfl _ _ rfl rfl hr ?_)
    go_ret
    exact ⟨_, rfl, HR.out⟩

theorem all_any {w : World} {b m : Nat} {v : Value} {l l' : List WaT} (h : Bo w b m v l l') (hl : l.length ≤ 2000000000) :
    Calls Try.prog 16 #[.pointer (some ⟨b, 0, none⟩)] w fun e w' => ∃ u, e = .returned u ∧ w'.ownsRow w.heap.size 30 3 u l.length (waFlat l) ∧ Below w.heap.size w w' := by
  have HN : Hid _ := isNone_no h
  have HC : Hid _ := clone_any h.ho hl
  have c0 := h.c0
  obtain ⟨vo, vc, rfl⟩ := rowS h.ho
  have hz := lt_of_block h.hb
  clear h
  go_enter Try.func16, Try.ntmps16
  go_wp2_with fail
  refine Calls.mono HN.out ?_
  rintro e w1 ⟨rfl, rfl⟩
  go_wp2_with fail
  go_at_call 27
  refine Calls.mono HC.out ?_
  rintro e w2 ⟨u, rfl, HO, HB⟩
  clear HN HC
  obtain ⟨uo, uc, rfl⟩ := rowS HO
  have HR : Hid _ := And.intro HO HB
  clear HO HB
  go_wp2
  all_goals (go_ret; exact ⟨_, rfl, HR.out⟩)

end Go.Proofs.Ytgdbcdddcejehaa
