/- Requests and transactions that came in, opened: what the statement's reading says of their cells; no Go function is walked here. -/
import Derived.Test.YtgjjcmhlmdfccaaGreatDoorProg
import Derived.Test.YtgjjcmhlmdfccaaGreatDoorLeafSumJ
import Derived.ProofKit
import Derived.OpenShut
import Derived.ChangeOld
import Derived.Deep.Slices
import Derived.SizedLaws
namespace Go.Proofs.YtgjjcmhlmdfccaaGreatDoor
open Go.ChangeShapes Go.WideShapes Go.ChangeAt Go.RowKit
set_option maxRecDepth 8000

theorem addr_plus (b off n : Nat) : (⟨b, off, none⟩ : Addr).add n = ⟨b, off + n, none⟩ := by
  by_cases h : n = 0
  · subst h; simp [Addr.add]
  · simp [Addr.add, h]

theorem reach_lt : reachBytes ≤ 140737488355328 := by
  have := reachBytes_lt
  have h47 : (2 : Nat) ^ 47 = 140737488355328 := by decide
  omega

section
variable {H : Type} {enc : TypeId × Value → H} {W : World} {base : Nat} {spare : Nat → Bool} {held : Bool}

theorem weights_all_mem {P : Program} {e : TypeId} : ∀ {ds : List (DataW H)} {d : DataW H}, d ∈ ds → ∀ n ∈ d.weights P e, n ∈ DataW.weightsAll P e ds
  | d0 :: ds, d, hd, n, hn => by
    simp only [DataW.weightsAll, List.mem_append]
    rcases List.mem_cons.1 hd with rfl | hd
    · exact .inl hn
    · exact .inr (weights_all_mem hd n hn)

theorem list_map_of {α β : Type} {f : α → β} {Q : α → Prop} : ∀ {cs : List β}, (∀ c ∈ cs, ∃ x, c = f x ∧ Q x) → ∃ l : List α, cs = l.map f ∧ ∀ x ∈ l, Q x
  | [], _ => ⟨[], rfl, fun x hx => by simp at hx⟩
  | c :: cs, h => by
    obtain ⟨x, e, hq⟩ := h c (by simp)
    obtain ⟨l, e', hl⟩ := list_map_of (cs := cs) (fun c hc => h c (by simp [hc]))
    refine ⟨x :: l, by simp [e, e'], fun y hy => ?_⟩
    rcases List.mem_cons.1 hy with rfl | hy
    · exact hq
    · exact hl y hy

/-- A list of elements of z cells that came in. -/
theorem open_rows {t e : TypeId} {z : Nat} {fuel : Nat} {v : Value} {x : DataW H × List MemPlace} (ht : Tryz.prog.underlying t = some (.slice e)) (hz : Tryz.prog.cellsOf e = z) (hb : 1 ≤ Tryz.prog.bytesOf e) (hz0 : 0 < z)
    (h : DataW.trod enc Tryz.prog W base spare held fuel t [v] = some x) (hw : (x.1.weights Tryz.prog t).all (· ≤ reachBytes) = true) :
    ∃ cs : List (List Value), SeesR W v z cs ∧ cs.length ≤ reachBytes ∧ ∀ c ∈ cs, ∃ (n : Nat) (y : DataW H × List MemPlace), DataW.trod enc Tryz.prog W base spare held n e c = some y ∧ SizeOf.sizeOf y.1 < SizeOf.sizeOf x.1 ∧ (y.1.weights Tryz.prog e).all (· ≤ reachBytes) = true := by
  rcases Deep.open_slice ht h with ⟨hcs, _⟩ | ⟨a, len, cap, m, n, D, Pl, hcs, _, hl, hm, hmm, hx, hel⟩
  · simp at hcs
    subst hcs
    exact ⟨[], SeesR.nil W z, Nat.zero_le _, fun c hc => by simp at hc⟩
  · simp at hcs
    subst hcs
    have hlm : len ≤ m := by rw [hmm]; split <;> omega
    rw [hx] at hw
    simp only [DataW.weights, ht, List.all_cons, List.all_append, Bool.and_eq_true, decide_eq_true_eq, List.length_map, List.length_range] at hw
    have hwd : ∀ i, i < len → ((D i).weights Tryz.prog e).all (· ≤ reachBytes) = true := by
      intro i hi
      have := hw.2.1
      rw [List.all_eq_true] at this ⊢
      intro q hq
      exact this q (weights_all_mem (List.mem_map.2 ⟨i, List.mem_range.2 hi, rfl⟩) q hq)
    have each : ∀ i, i < len → ∃ c : List Value, c.length = z ∧ (∀ j, j < z → W.cell? (a.add (i * z + j)) = c[j]?) ∧ DataW.trod enc Tryz.prog W base spare held n e c = some (D i, Pl i) := by
      intro i hi
      obtain ⟨cs', h1, h2⟩ := hel i (by omega)
      rw [hz] at h1
      obtain ⟨_, hlen, hcell⟩ := World.cells?_some h1
      refine ⟨cs', hlen, fun j hj => ?_, h2⟩
      have := hcell j hj
      rw [Deep.add_add] at this
      exact this
    obtain ⟨C, hC⟩ := Deep.choose_lt each
    have hol : ((List.range len).map C).length = len := by simp
    refine ⟨(List.range len).map C, ⟨some a, cap, by rw [hol], by omega, hm, fun e => by simp at e, ?_⟩, ?_, fun c hc => ?_⟩
    · by_cases h0 : len = 0
      · subst h0; exact .inl rfl
      · obtain ⟨b, off, spot⟩ := a
        obtain ⟨hc1, hc2, _⟩ := hC 0 (by omega)
        have hc0 : W.cell? ((⟨b, off, spot⟩ : Addr).add (0 * z + 0)) = some ((C 0)[0]'(by omega)) := by
          rw [hc2 0 hz0, List.getElem?_eq_getElem]
        have hspot : spot = none := by simpa [Addr.add] using World.cell?_spot hc0
        subst hspot
        refine .inr ⟨b, off, rfl, fun i hi j hj => ?_⟩
        rw [hol] at hi
        obtain ⟨hq1, hq2, _⟩ := hC i hi
        have := hq2 j hj
        rw [addr_plus, ← Nat.add_assoc] at this
        rw [this]
        simp only [List.getElem_map, List.getElem_range]
        rw [List.getD_eq_getElem?_getD, List.getElem?_eq_getElem (by omega)]
        rfl
    · rw [hol]
      have h1 : len * 1 ≤ len * Tryz.prog.bytesOf e := Nat.mul_le_mul_left len hb
      have h2 : len * Tryz.prog.bytesOf e ≤ reachBytes := Nat.le_trans (Nat.mul_le_mul_right _ (Nat.le_add_right len (m - len))) hw.1
      omega
    · obtain ⟨i, hi, rfl⟩ := List.mem_map.1 hc
      have hi' := List.mem_range.1 hi
      refine ⟨n, (D i, Pl i), (hC i hi').2.2, ?_, hwd i hi'⟩
      rw [hx]
      have hmem : D i ∈ (List.range len).map D := List.mem_map.2 ⟨i, hi, rfl⟩
      have := List.sizeOf_lt_of_mem hmem
      simp only [DataW.slice.sizeOf_spec]
      omega

/-- The weights of a struct's parts. -/
theorem parts_all {t : TypeId} {ts : List TypeId} {ys : List (DataW H)} (hw : (DataW.weightsEach Tryz.prog ts ys).all (· ≤ reachBytes) = true) (j : Nat) (d : DataW H) (ht : ts[j]? = some t) (hd : ys[j]? = some d) : (d.weights Tryz.prog t).all (· ≤ reachBytes) = true := by
  rw [List.all_eq_true] at hw ⊢
  intro m hm
  exact hw m (DataW.weights_mem_each (ts := ts) ht hd m hm)

theorem open_id {fuel : Nat} {cs : List Value} {x : DataW H × List MemPlace} (h : DataW.trod enc Tryz.prog W base spare held fuel 102 cs = some x) (hw : (x.1.weights Tryz.prog 102).all (· ≤ reachBytes) = true) :
    ∃ d : IdD, cs = d.cells ∧ d.scheme.size ≤ reachBytes ∧ d.name.size ≤ reachBytes := by
  have hcells : Tryz.prog.cellsOf 102 = 2 := by kernel_rfl
  obtain ⟨xs, n, _, hx, hl, hxl, hf⟩ := DataW.trod_struct Tryz.underlying102 h
  rw [hcells] at hl
  have q4 : Tryz.prog.cellsOf 9 = 1 := by kernel_rfl
  have g0 : DataW.trod enc Tryz.prog W base spare held n 9 ((cs.drop 0).take (Tryz.prog.cellsOf 9)) = xs[0]? := hf 0 _ rfl
  have g1 : DataW.trod enc Tryz.prog W base spare held n 9 ((cs.drop 1).take (Tryz.prog.cellsOf 9)) = xs[1]? := hf 1 _ rfl
  have hxl2 : xs.length = 2 := hxl
  clear hf hxl
  match xs, hxl2, cs, hl with
  | [y0, y1], _, [v0, v1], _ =>
    rw [q4] at g0 g1
    obtain ⟨s0, e0, d0, _⟩ := DataW.trod_string Tryz.underlying9 (show DataW.trod enc Tryz.prog W base spare held n 9 [v0] = some y0 from g0)
    obtain ⟨s1, e1, d1, _⟩ := DataW.trod_string Tryz.underlying9 (show DataW.trod enc Tryz.prog W base spare held n 9 [v1] = some y1 from g1)
    simp at e0 e1
    subst e0 e1
    rw [hx] at hw
    simp only [DataW.weights, Tryz.underlying102] at hw
    have h0 := parts_all (t := 9) hw 0 y0.1 rfl rfl
    have h1 := parts_all (t := 9) hw 1 y1.1 rfl rfl
    rw [d0] at h0
    rw [d1] at h1
    simp [DataW.weights] at h0 h1
    exact ⟨⟨s0, s1⟩, rfl, h0, h1⟩

theorem open_en {fuel : Nat} {cs : List Value} {x : DataW H × List MemPlace} (h : DataW.trod enc Tryz.prog W base spare held fuel 104 cs = some x) (hw : (x.1.weights Tryz.prog 104).all (· ≤ reachBytes) = true) :
    ∃ d : EnD, cs = d.cells ∧ -128 ≤ d.perms ∧ d.perms ≤ 127 ∧ d.id.scheme.size ≤ reachBytes ∧ d.id.name.size ≤ reachBytes := by
  have hcells : Tryz.prog.cellsOf 104 = 3 := by kernel_rfl
  obtain ⟨xs, n, _, hx, hl, hxl, hf⟩ := DataW.trod_struct Tryz.underlying104 h
  rw [hcells] at hl
  have q1 : Tryz.prog.cellsOf 22 = 1 := by kernel_rfl
  have q2 : Tryz.prog.cellsOf 102 = 2 := by kernel_rfl
  have g0 : DataW.trod enc Tryz.prog W base spare held n 22 ((cs.drop 0).take (Tryz.prog.cellsOf 22)) = xs[0]? := hf 0 _ rfl
  have g1 : DataW.trod enc Tryz.prog W base spare held n 102 ((cs.drop 1).take (Tryz.prog.cellsOf 102)) = xs[1]? := hf 1 _ rfl
  have hxl2 : xs.length = 2 := hxl
  clear hf hxl
  match xs, hxl2, cs, hl with
  | [y0, y1], _, [v0, v1, v2], _ =>
    rw [q1] at g0
    rw [q2] at g1
    rw [hx] at hw
    simp only [DataW.weights, Tryz.underlying104] at hw
    have h1 := parts_all (t := 102) hw 1 y1.1 rfl rfl
    obtain ⟨p, e0, _, w0⟩ := DataW.trod_int Tryz.underlying22 (show DataW.trod enc Tryz.prog W base spare held n 22 [v0] = some y0 from g0)
    obtain ⟨d, e1, hs, hn⟩ := open_id (show DataW.trod enc Tryz.prog W base spare held n 102 [v1, v2] = some y1 from g1) h1
    simp at e0
    subst e0
    have hb := bounds_i8 w0
    refine ⟨⟨p, d⟩, ?_, hb.1, hb.2, hs, hn⟩
    rw [show [Value.int .i8 p, v1, v2] = .int .i8 p :: [v1, v2] from rfl, e1]
    rfl

theorem open_ids {fuel : Nat} {v : Value} {x : DataW H × List MemPlace} (h : DataW.trod enc Tryz.prog W base spare held fuel 32 [v] = some x) (hw : (x.1.weights Tryz.prog 32).all (· ≤ reachBytes) = true) :
    ∃ l : List IdD, SeesR W v 2 (l.map IdD.cells) ∧ l.length ≤ reachBytes ∧ ∀ d ∈ l, d.scheme.size ≤ reachBytes ∧ d.name.size ≤ reachBytes := by
  obtain ⟨cs, hs, hl, hc⟩ := open_rows Tryz.underlying32 (z := 2) (by kernel_rfl) (of_decide_eq_true (by kernel_rfl)) (by omega) h hw
  obtain ⟨l, rfl, hq⟩ := list_map_of (f := IdD.cells) (Q := fun d => d.scheme.size ≤ reachBytes ∧ d.name.size ≤ reachBytes) (cs := cs) (fun c hcc => by
    obtain ⟨n, y, h1, _, h3⟩ := hc c hcc
    exact open_id h1 h3)
  exact ⟨l, hs, by simpa using hl, hq⟩

theorem open_acl {fuel : Nat} {v : Value} {x : DataW H × List MemPlace} (h : DataW.trod enc Tryz.prog W base spare held fuel 31 [v] = some x) (hw : (x.1.weights Tryz.prog 31).all (· ≤ reachBytes) = true) :
    ∃ l : List EnD, SeesR W v 3 (l.map EnD.cells) ∧ l.length ≤ reachBytes ∧ ∀ d ∈ l, -128 ≤ d.perms ∧ d.perms ≤ 127 ∧ d.id.scheme.size ≤ reachBytes ∧ d.id.name.size ≤ reachBytes := by
  obtain ⟨cs, hs, hl, hc⟩ := open_rows Tryz.underlying31 (z := 3) (by kernel_rfl) (of_decide_eq_true (by kernel_rfl)) (by omega) h hw
  obtain ⟨l, rfl, hq⟩ := list_map_of (f := EnD.cells) (Q := fun d => -128 ≤ d.perms ∧ d.perms ≤ 127 ∧ d.id.scheme.size ≤ reachBytes ∧ d.id.name.size ≤ reachBytes) (cs := cs) (fun c hcc => by
    obtain ⟨n, y, h1, _, h3⟩ := hc c hcc
    exact open_en h1 h3)
  exact ⟨l, hs, by simpa using hl, hq⟩

theorem open_dat {fuel : Nat} {v : Value} {x : DataW H × List MemPlace} (h : DataW.trod enc Tryz.prog W base spare held fuel 30 [v] = some x) (hw : (x.1.weights Tryz.prog 30).all (· ≤ reachBytes) = true) :
    ∃ ys : List Int, Sees W v ys ∧ Byts ys ∧ ys.length ≤ reachBytes := by
  obtain ⟨cs, hs, hl, hc⟩ := open_rows Tryz.underlying30 (z := 1) (by kernel_rfl) (of_decide_eq_true (by kernel_rfl)) (by omega) h hw
  obtain ⟨l, rfl, hq⟩ := list_map_of (f := fun n : Int => [Value.int .u8 n]) (Q := fun n => 0 ≤ n ∧ n ≤ 255) (cs := cs) (fun c hcc => by
    obtain ⟨n, y, h1, _, _⟩ := hc c hcc
    obtain ⟨p, e0, _, w0⟩ := DataW.trod_int Tryz.underlying5 h1
    exact ⟨p, e0, bounds_u8 w0⟩)
  obtain ⟨ao, cap, rfl, h1, h2, h0, h3⟩ := hs
  refine ⟨l, ⟨ao, cap, by simp, by simpa using h1, h2, h0, ?_⟩, hq, by simpa using hl⟩
  rcases h3 with h3 | ⟨b, off, rfl, h3⟩
  · exact .inl (by simpa using h3)
  · refine .inr ⟨b, off, rfl, fun i hi => ?_⟩
    have := h3 i (by simpa using hi) 0 (by omega)
    simp at this
    rw [this, List.getD_eq_getElem?_getD, List.getElem?_eq_getElem hi]
    rfl
end
end Go.Proofs.YtgjjcmhlmdfccaaGreatDoor
