/- Lists of entries and of ids that came in, as SE and SI see them. -/
import Derived.Test.YtgoiefhhbgollaaGreatDoorQcEJ
import Derived.Test.YtgoiefhhbgollaaGreatDoorRqOpenJ
namespace Go.Proofs.YtgoiefhhbgollaaGreatDoor
open Go.RowKit Go.Shelf
set_option maxRecDepth 8000

def enOf (d : EnD) : EnT := (d.perms, d.id.scheme, d.id.name)
def idOf (d : IdD) : IdT := (d.scheme, d.name)

theorem SE_sees {W : World} {v : Value} {l : List EnD} (h : SeesR W v 3 (l.map EnD.cells)) : SE W v (l.map enOf) := by
  obtain ⟨ao, cap, rfl, hlc, _, _, h3⟩ := h
  refine ⟨ao, cap, by simp, by simpa using hlc, fun hn => ?_⟩
  rcases h3 with h3 | ⟨b, off, rfl, h3⟩
  · exact absurd (by simpa using h3) (by simpa using hn)
  · refine ⟨b, off, rfl, fun i x hx => ?_⟩
    rw [List.getElem?_map, Option.map_eq_some_iff] at hx
    obtain ⟨d, hd, rfl⟩ := hx
    obtain ⟨hi, hd2⟩ := List.getElem?_eq_some_iff.1 hd
    have e0 := h3 i (by simpa using hi) 0 (by omega)
    have e1 := h3 i (by simpa using hi) 1 (by omega)
    have e2 := h3 i (by simpa using hi) 2 (by omega)
    rw [List.getElem_map, hd2] at e0 e1 e2
    exact ⟨e0, e1, e2⟩

theorem SI_sees {W : World} {v : Value} {l : List IdD} (h : SeesR W v 2 (l.map IdD.cells)) : SI W v (l.map idOf) := by
  obtain ⟨ao, cap, rfl, hlc, _, _, h3⟩ := h
  refine ⟨ao, cap, by simp, by simpa using hlc, fun hn => ?_⟩
  rcases h3 with h3 | ⟨b, off, rfl, h3⟩
  · exact absurd (by simpa using h3) (by simpa using hn)
  · refine ⟨b, off, rfl, fun i x hx => ?_⟩
    rw [List.getElem?_map, Option.map_eq_some_iff] at hx
    obtain ⟨d, hd, rfl⟩ := hx
    obtain ⟨hi, hd2⟩ := List.getElem?_eq_some_iff.1 hd
    have e0 := h3 i (by simpa using hi) 0 (by omega)
    have e1 := h3 i (by simpa using hi) 1 (by omega)
    rw [List.getElem_map, hd2] at e0 e1
    exact ⟨e0, e1⟩

theorem reach_len : reachBytes ≤ 2 ^ 62 := by have := reach_lt; omega

end Go.Proofs.YtgoiefhhbgollaaGreatDoor
