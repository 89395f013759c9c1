/- Requests and transactions that came in, opened: what the statement's reading says of their cells; no Go function is walked here. -/
import Derived.Test.YtjakjbfeaiempaaDoorProg
import Derived.Test.YtjakjbfeaiempaaDoorRqJ
import Derived.ProofKit
import Derived.OpenShut
import Derived.ChangeOld
import Derived.Deep.Slices
import Derived.SizedLaws
import Derived.Test.YtjakjbfeaiempaaDoorQcEJ
import Derived.Lib.SmallJoins
namespace Go.Proofs.YtjakjbfeaiempaaDoor
open Go.ChangeShapes Go.WideShapes Go.ChangeAt Go.RowKit
set_option maxRecDepth 8000

theorem addr_plus (b off n : Nat) : (⟨b, off, none⟩ : Addr).add n = ⟨b, off + n, none⟩ := by
  by_cases h : n = 0
  · subst h; simp [Addr.add]
  · simp [Addr.add, h]

theorem reach_lt : reachBytes ≤ 140737488355328 := by
  have := reachBytes_lt
  have h47 : (2 : Nat) ^ 47 = 140737488355328 := by decide
  omega

section
variable {H : Type} {enc : TypeId × Value → H} {W : World} {base : Nat} {spare : Nat → Bool} {held : Bool}

theorem weights_all_mem {P : Program} {e : TypeId} : ∀ {ds : List (DataW H)} {d : DataW H}, d ∈ ds → ∀ n ∈ d.weights P e, n ∈ DataW.weightsAll P e ds
  | d0 :: ds, d, hd, n, hn => by
    simp only [DataW.weightsAll, List.mem_append]
    rcases List.mem_cons.1 hd with rfl | hd
    · exact .inl hn
    · exact .inr (weights_all_mem hd n hn)

theorem list_map_of {α β : Type} {f : α → β} {Q : α → Prop} : ∀ {cs : List β}, (∀ c ∈ cs, ∃ x, c = f x ∧ Q x) → ∃ l : List α, cs = l.map f ∧ ∀ x ∈ l, Q x
  | [], _ => ⟨[], rfl, fun x hx => by simp at hx⟩
  | c :: cs, h => by
    obtain ⟨x, e, hq⟩ := h c (by simp)
    obtain ⟨l, e', hl⟩ := list_map_of (cs := cs) (fun c hc => h c (by simp [hc]))
    refine ⟨x :: l, by simp [e, e'], fun y hy => ?_⟩
    rcases List.mem_cons.1 hy with rfl | hy
    · exact hq
    · exact hl y hy

/-- A list of elements of z cells that came in. -/
theorem open_rows {t e : TypeId} {z : Nat} {fuel : Nat} {v : Value} {x : DataW H × List MemPlace} (ht : Tryd.prog.underlying t = some (.slice e)) (hz : Tryd.prog.cellsOf e = z) (hb : 1 ≤ Tryd.prog.bytesOf e) (hz0 : 0 < z)
    (h : DataW.trod enc Tryd.prog W base spare held fuel t [v] = some x) (hw : (x.1.weights Tryd.prog t).all (· ≤ reachBytes) = true) :
    ∃ cs : List (List Value), SeesR W v z cs ∧ cs.length ≤ reachBytes ∧ ∀ c ∈ cs, ∃ (n : Nat) (y : DataW H × List MemPlace), DataW.trod enc Tryd.prog W base spare held n e c = some y ∧ SizeOf.sizeOf y.1 < SizeOf.sizeOf x.1 ∧ (y.1.weights Tryd.prog e).all (· ≤ reachBytes) = true := by
  rcases Deep.open_slice ht h with ⟨hcs, _⟩ | ⟨a, len, cap, m, n, D, Pl, hcs, _, hl, hm, hmm, hx, hel⟩
  · simp at hcs
    subst hcs
    exact ⟨[], SeesR.nil W z, Nat.zero_le _, fun c hc => by simp at hc⟩
  · simp at hcs
    subst hcs
    have hlm : len ≤ m := by rw [hmm]; split <;> omega
    rw [hx] at hw
    simp only [DataW.weights, ht, List.all_cons, List.all_append, Bool.and_eq_true, decide_eq_true_eq, List.length_map, List.length_range] at hw
    have hwd : ∀ i, i < len → ((D i).weights Tryd.prog e).all (· ≤ reachBytes) = true := by
      intro i hi
      have := hw.2.1
      rw [List.all_eq_true] at this ⊢
      intro q hq
      exact this q (weights_all_mem (List.mem_map.2 ⟨i, List.mem_range.2 hi, rfl⟩) q hq)
    have each : ∀ i, i < len → ∃ c : List Value, c.length = z ∧ (∀ j, j < z → W.cell? (a.add (i * z + j)) = c[j]?) ∧ DataW.trod enc Tryd.prog W base spare held n e c = some (D i, Pl i) := by
      intro i hi
      obtain ⟨cs', h1, h2⟩ := hel i (by omega)
      rw [hz] at h1
      obtain ⟨_, hlen, hcell⟩ := World.cells?_some h1
      refine ⟨cs', hlen, fun j hj => ?_, h2⟩
      have := hcell j hj
      rw [Deep.add_add] at this
      exact this
    obtain ⟨C, hC⟩ := Deep.choose_lt each
    have hol : ((List.range len).map C).length = len := by simp
    refine ⟨(List.range len).map C, ⟨some a, cap, by rw [hol], by omega, hm, fun e => by simp at e, ?_⟩, ?_, fun c hc => ?_⟩
    · by_cases h0 : len = 0
      · subst h0; exact .inl rfl
      · obtain ⟨b, off, spot⟩ := a
        obtain ⟨hc1, hc2, _⟩ := hC 0 (by omega)
        have hc0 : W.cell? ((⟨b, off, spot⟩ : Addr).add (0 * z + 0)) = some ((C 0)[0]'(by omega)) := by
          rw [hc2 0 hz0, List.getElem?_eq_getElem]
        have hspot : spot = none := by simpa [Addr.add] using World.cell?_spot hc0
        subst hspot
        refine .inr ⟨b, off, rfl, fun i hi j hj => ?_⟩
        rw [hol] at hi
        obtain ⟨hq1, hq2, _⟩ := hC i hi
        have := hq2 j hj
        rw [addr_plus, ← Nat.add_assoc] at this
        rw [this]
        simp only [List.getElem_map, List.getElem_range]
        rw [List.getD_eq_getElem?_getD, List.getElem?_eq_getElem (by omega)]
        rfl
    · rw [hol]
      have h1 : len * 1 ≤ len * Tryd.prog.bytesOf e := Nat.mul_le_mul_left len hb
      have h2 : len * Tryd.prog.bytesOf e ≤ reachBytes := Nat.le_trans (Nat.mul_le_mul_right _ (Nat.le_add_right len (m - len))) hw.1
      omega
    · obtain ⟨i, hi, rfl⟩ := List.mem_map.1 hc
      have hi' := List.mem_range.1 hi
      refine ⟨n, (D i, Pl i), (hC i hi').2.2, ?_, hwd i hi'⟩
      rw [hx]
      have hmem : D i ∈ (List.range len).map D := List.mem_map.2 ⟨i, hi, rfl⟩
      have := List.sizeOf_lt_of_mem hmem
      simp only [DataW.slice.sizeOf_spec]
      omega

/-- The weights of a struct's parts. -/
theorem parts_all {t : TypeId} {ts : List TypeId} {ys : List (DataW H)} (hw : (DataW.weightsEach Tryd.prog ts ys).all (· ≤ reachBytes) = true) (j : Nat) (d : DataW H) (ht : ts[j]? = some t) (hd : ys[j]? = some d) : (d.weights Tryd.prog t).all (· ≤ reachBytes) = true := by
  rw [List.all_eq_true] at hw ⊢
  intro m hm
  exact hw m (DataW.weights_mem_each (ts := ts) ht hd m hm)

theorem open_id {fuel : Nat} {cs : List Value} {x : DataW H × List MemPlace} (h : DataW.trod enc Tryd.prog W base spare held fuel 37 cs = some x) (hw : (x.1.weights Tryd.prog 37).all (· ≤ reachBytes) = true) :
    ∃ d : IdD, cs = d.cells ∧ d.scheme.size ≤ reachBytes ∧ d.name.size ≤ reachBytes := by
  have hcells : Tryd.prog.cellsOf 37 = 2 := by kernel_rfl
  obtain ⟨xs, n, _, hx, hl, hxl, hf⟩ := DataW.trod_struct Tryd.underlying37 h
  rw [hcells] at hl
  have q4 : Tryd.prog.cellsOf 9 = 1 := by kernel_rfl
  have g0 : DataW.trod enc Tryd.prog W base spare held n 9 ((cs.drop 0).take (Tryd.prog.cellsOf 9)) = xs[0]? := hf 0 _ rfl
  have g1 : DataW.trod enc Tryd.prog W base spare held n 9 ((cs.drop 1).take (Tryd.prog.cellsOf 9)) = xs[1]? := hf 1 _ rfl
  have hxl2 : xs.length = 2 := hxl
  clear hf hxl
  match xs, hxl2, cs, hl with
  | [y0, y1], _, [v0, v1], _ =>
    rw [q4] at g0 g1
    obtain ⟨s0, e0, d0, _⟩ := DataW.trod_string Tryd.underlying9 (show DataW.trod enc Tryd.prog W base spare held n 9 [v0] = some y0 from g0)
    obtain ⟨s1, e1, d1, _⟩ := DataW.trod_string Tryd.underlying9 (show DataW.trod enc Tryd.prog W base spare held n 9 [v1] = some y1 from g1)
    simp at e0 e1
    subst e0 e1
    rw [hx] at hw
    simp only [DataW.weights, Tryd.underlying37] at hw
    have h0 := parts_all (t := 9) hw 0 y0.1 rfl rfl
    have h1 := parts_all (t := 9) hw 1 y1.1 rfl rfl
    rw [d0] at h0
    rw [d1] at h1
    simp [DataW.weights] at h0 h1
    exact ⟨⟨s0, s1⟩, rfl, h0, h1⟩

theorem open_en {fuel : Nat} {cs : List Value} {x : DataW H × List MemPlace} (h : DataW.trod enc Tryd.prog W base spare held fuel 39 cs = some x) (hw : (x.1.weights Tryd.prog 39).all (· ≤ reachBytes) = true) :
    ∃ d : EnD, cs = d.cells ∧ -128 ≤ d.perms ∧ d.perms ≤ 127 ∧ d.id.scheme.size ≤ reachBytes ∧ d.id.name.size ≤ reachBytes := by
  have hcells : Tryd.prog.cellsOf 39 = 3 := by kernel_rfl
  obtain ⟨xs, n, _, hx, hl, hxl, hf⟩ := DataW.trod_struct Tryd.underlying39 h
  rw [hcells] at hl
  have q1 : Tryd.prog.cellsOf 35 = 1 := by kernel_rfl
  have q2 : Tryd.prog.cellsOf 37 = 2 := by kernel_rfl
  have g0 : DataW.trod enc Tryd.prog W base spare held n 35 ((cs.drop 0).take (Tryd.prog.cellsOf 35)) = xs[0]? := hf 0 _ rfl
  have g1 : DataW.trod enc Tryd.prog W base spare held n 37 ((cs.drop 1).take (Tryd.prog.cellsOf 37)) = xs[1]? := hf 1 _ rfl
  have hxl2 : xs.length = 2 := hxl
  clear hf hxl
  match xs, hxl2, cs, hl with
  | [y0, y1], _, [v0, v1, v2], _ =>
    rw [q1] at g0
    rw [q2] at g1
    rw [hx] at hw
    simp only [DataW.weights, Tryd.underlying39] at hw
    have h1 := parts_all (t := 37) hw 1 y1.1 rfl rfl
    obtain ⟨p, e0, _, w0⟩ := DataW.trod_int Tryd.underlying35 (show DataW.trod enc Tryd.prog W base spare held n 35 [v0] = some y0 from g0)
    obtain ⟨d, e1, hs, hn⟩ := open_id (show DataW.trod enc Tryd.prog W base spare held n 37 [v1, v2] = some y1 from g1) h1
    simp at e0
    subst e0
    have hb := bounds_i8 w0
    refine ⟨⟨p, d⟩, ?_, hb.1, hb.2, hs, hn⟩
    rw [show [Value.int .i8 p, v1, v2] = .int .i8 p :: [v1, v2] from rfl, e1]
    rfl

theorem open_ids {fuel : Nat} {v : Value} {x : DataW H × List MemPlace} (h : DataW.trod enc Tryd.prog W base spare held fuel 23 [v] = some x) (hw : (x.1.weights Tryd.prog 23).all (· ≤ reachBytes) = true) :
    ∃ l : List IdD, SeesR W v 2 (l.map IdD.cells) ∧ l.length ≤ reachBytes ∧ ∀ d ∈ l, d.scheme.size ≤ reachBytes ∧ d.name.size ≤ reachBytes := by
  obtain ⟨cs, hs, hl, hc⟩ := open_rows Tryd.underlying23 (z := 2) (by kernel_rfl) (of_decide_eq_true (by kernel_rfl)) (by omega) h hw
  obtain ⟨l, rfl, hq⟩ := list_map_of (f := IdD.cells) (Q := fun d => d.scheme.size ≤ reachBytes ∧ d.name.size ≤ reachBytes) (cs := cs) (fun c hcc => by
    obtain ⟨n, y, h1, _, h3⟩ := hc c hcc
    exact open_id h1 h3)
  exact ⟨l, hs, by simpa using hl, hq⟩

theorem open_acl {fuel : Nat} {v : Value} {x : DataW H × List MemPlace} (h : DataW.trod enc Tryd.prog W base spare held fuel 22 [v] = some x) (hw : (x.1.weights Tryd.prog 22).all (· ≤ reachBytes) = true) :
    ∃ l : List EnD, SeesR W v 3 (l.map EnD.cells) ∧ l.length ≤ reachBytes ∧ ∀ d ∈ l, -128 ≤ d.perms ∧ d.perms ≤ 127 ∧ d.id.scheme.size ≤ reachBytes ∧ d.id.name.size ≤ reachBytes := by
  obtain ⟨cs, hs, hl, hc⟩ := open_rows Tryd.underlying22 (z := 3) (by kernel_rfl) (of_decide_eq_true (by kernel_rfl)) (by omega) h hw
  obtain ⟨l, rfl, hq⟩ := list_map_of (f := EnD.cells) (Q := fun d => -128 ≤ d.perms ∧ d.perms ≤ 127 ∧ d.id.scheme.size ≤ reachBytes ∧ d.id.name.size ≤ reachBytes) (cs := cs) (fun c hcc => by
    obtain ⟨n, y, h1, _, h3⟩ := hc c hcc
    exact open_en h1 h3)
  exact ⟨l, hs, by simpa using hl, hq⟩

theorem open_dat {fuel : Nat} {v : Value} {x : DataW H × List MemPlace} (h : DataW.trod enc Tryd.prog W base spare held fuel 85 [v] = some x) (hw : (x.1.weights Tryd.prog 85).all (· ≤ reachBytes) = true) :
    ∃ ys : List Int, Sees W v ys ∧ Byts ys ∧ ys.length ≤ reachBytes := by
  obtain ⟨cs, hs, hl, hc⟩ := open_rows Tryd.underlying85 (z := 1) (by kernel_rfl) (of_decide_eq_true (by kernel_rfl)) (by omega) h hw
  obtain ⟨l, rfl, hq⟩ := list_map_of (f := fun n : Int => [Value.int .u8 n]) (Q := fun n => 0 ≤ n ∧ n ≤ 255) (cs := cs) (fun c hcc => by
    obtain ⟨n, y, h1, _, _⟩ := hc c hcc
    obtain ⟨p, e0, _, w0⟩ := DataW.trod_int Tryd.underlying5 h1
    exact ⟨p, e0, bounds_u8 w0⟩)
  obtain ⟨ao, cap, rfl, h1, h2, h0, h3⟩ := hs
  refine ⟨l, ⟨ao, cap, by simp, by simpa using h1, h2, h0, ?_⟩, hq, by simpa using hl⟩
  rcases h3 with h3 | ⟨b, off, rfl, h3⟩
  · exact .inl (by simpa using h3)
  · refine .inr ⟨b, off, rfl, fun i hi => ?_⟩
    have := h3 i (by simpa using hi) 0 (by omega)
    simp at this
    rw [this, List.getD_eq_getElem?_getD, List.getElem?_eq_getElem hi]
    rfl
end
end Go.Proofs.YtjakjbfeaiempaaDoor

/- Lists of entries and of ids that came in, as SE and SI see them. -/
namespace Go.Proofs.YtjakjbfeaiempaaDoor
open Go.RowKit Go.Shelf
set_option maxRecDepth 8000

def enOf (d : EnD) : EnT := (d.perms, d.id.scheme, d.id.name)
def idOf (d : IdD) : IdT := (d.scheme, d.name)

theorem SE_sees {W : World} {v : Value} {l : List EnD} (h : SeesR W v 3 (l.map EnD.cells)) : SE W v (l.map enOf) := by
  obtain ⟨ao, cap, rfl, hlc, _, _, h3⟩ := h
  refine ⟨ao, cap, by simp, by simpa using hlc, fun hn => ?_⟩
  rcases h3 with h3 | ⟨b, off, rfl, h3⟩
  · exact absurd (by simpa using h3) (by simpa using hn)
  · refine ⟨b, off, rfl, fun i x hx => ?_⟩
    rw [List.getElem?_map, Option.map_eq_some_iff] at hx
    obtain ⟨d, hd, rfl⟩ := hx
    obtain ⟨hi, hd2⟩ := List.getElem?_eq_some_iff.1 hd
    have e0 := h3 i (by simpa using hi) 0 (by omega)
    have e1 := h3 i (by simpa using hi) 1 (by omega)
    have e2 := h3 i (by simpa using hi) 2 (by omega)
    rw [List.getElem_map, hd2] at e0 e1 e2
    exact ⟨e0, e1, e2⟩

theorem SI_sees {W : World} {v : Value} {l : List IdD} (h : SeesR W v 2 (l.map IdD.cells)) : SI W v (l.map idOf) := by
  obtain ⟨ao, cap, rfl, hlc, _, _, h3⟩ := h
  refine ⟨ao, cap, by simp, by simpa using hlc, fun hn => ?_⟩
  rcases h3 with h3 | ⟨b, off, rfl, h3⟩
  · exact absurd (by simpa using h3) (by simpa using hn)
  · refine ⟨b, off, rfl, fun i x hx => ?_⟩
    rw [List.getElem?_map, Option.map_eq_some_iff] at hx
    obtain ⟨d, hd, rfl⟩ := hx
    obtain ⟨hi, hd2⟩ := List.getElem?_eq_some_iff.1 hd
    have e0 := h3 i (by simpa using hi) 0 (by omega)
    have e1 := h3 i (by simpa using hi) 1 (by omega)
    rw [List.getElem_map, hd2] at e0 e1
    exact ⟨e0, e1⟩

theorem reach_len : reachBytes ≤ 2 ^ 62 := by have := reach_lt; omega

end Go.Proofs.YtjakjbfeaiempaaDoor

/- A case of layer 6 that came in, opened. -/
namespace Go.Proofs.YtjakjbfeaiempaaDoor
open Go.ChangeShapes Go.WideShapes Go.ChangeAt Go.RowKit Go.Joins
set_option maxRecDepth 8000

section
variable {H : Type} {enc : TypeId × Value → H} {W : World} {base : Nat} {spare : Nat → Bool} {held : Bool}

/-- A case that came in. -/
theorem open_case {r : Reach} {b0 : Nat} {v : Value} {d : DataW H} {ps : List MemPlace} (hv : Value.okWide Tryd.prog W r b0 41 v) (h : DataW.Trod enc Tryd.prog W base spare held 41 v d ps) (hw : (d.weights Tryd.prog 41).all (· ≤ reachBytes) = true) :
    ∃ (l : List EnT) (mk who : List IdT) (pm : Int) (m : EnT) (o : IdT) (la ma wa : Option Addr) (lc mc wc : Nat), v = .agg #[.slice la l.length lc, .slice ma mk.length mc, .int .i8 pm, .slice wa who.length wc, .int .i8 m.1, .string m.2.1, .string m.2.2, .string o.1, .string o.2] ∧ SE W (.slice la l.length lc) l ∧ SI W (.slice ma mk.length mc) mk ∧ SI W (.slice wa who.length wc) who ∧ l.length ≤ 2 ^ 62 ∧ mk.length ≤ 2 ^ 62 ∧ who.length ≤ 2 ^ 62 := by
  have hcells : Tryd.prog.cellsOf 41 = 9 := by kernel_rfl
  obtain ⟨cs, rfl, hsz⟩ := okWide_struct Tryd.underlying41 hv
  rw [hcells] at hsz
  obtain ⟨fuel, hf0⟩ := h
  obtain ⟨xs, n, _, hx, hl, hxl, hf⟩ := DataW.trod_struct Tryd.underlying41 hf0
  have q1 : Tryd.prog.cellsOf 22 = 1 := by kernel_rfl
  have q2 : Tryd.prog.cellsOf 23 = 1 := by kernel_rfl
  have q3 : Tryd.prog.cellsOf 35 = 1 := by kernel_rfl
  have q4 : Tryd.prog.cellsOf 39 = 3 := by kernel_rfl
  have q5 : Tryd.prog.cellsOf 37 = 2 := by kernel_rfl
  have g0 : DataW.trod enc Tryd.prog W base spare held n 22 (((Value.agg cs).cells.toList.drop 0).take (Tryd.prog.cellsOf 22)) = xs[0]? := hf 0 _ rfl
  have g1 : DataW.trod enc Tryd.prog W base spare held n 23 (((Value.agg cs).cells.toList.drop 1).take (Tryd.prog.cellsOf 23)) = xs[1]? := hf 1 _ rfl
  have g2 : DataW.trod enc Tryd.prog W base spare held n 35 (((Value.agg cs).cells.toList.drop 2).take (Tryd.prog.cellsOf 35)) = xs[2]? := hf 2 _ rfl
  have g3 : DataW.trod enc Tryd.prog W base spare held n 23 (((Value.agg cs).cells.toList.drop 3).take (Tryd.prog.cellsOf 23)) = xs[3]? := hf 3 _ rfl
  have g4 : DataW.trod enc Tryd.prog W base spare held n 39 (((Value.agg cs).cells.toList.drop 4).take (Tryd.prog.cellsOf 39)) = xs[4]? := hf 4 _ rfl
  have g5 : DataW.trod enc Tryd.prog W base spare held n 37 (((Value.agg cs).cells.toList.drop 7).take (Tryd.prog.cellsOf 37)) = xs[5]? := hf 5 _ rfl
  have hxl2 : xs.length = 6 := hxl
  clear hf hxl hl
  obtain ⟨cl⟩ := cs
  match xs, hxl2, cl, hsz with
  | [y0, y1, y2, y3, y4, y5], _, [v0, v1, v2, v3, v4, v5, v6, v7, v8], _ =>
    rw [q1] at g0
    rw [q2] at g1 g3
    rw [q3] at g2
    rw [q4] at g4
    rw [q5] at g5
    have hx1 := congrArg Prod.fst hx
    dsimp only at hx1
    rw [hx1] at hw
    simp only [DataW.weights, Tryd.underlying41] at hw
    obtain ⟨l, s0, n0, _⟩ := open_acl (show DataW.trod enc Tryd.prog W base spare held n 22 [v0] = some y0 from g0) (parts_all (t := 22) hw 0 y0.1 rfl rfl)
    obtain ⟨mk, s1, n1, _⟩ := open_ids (show DataW.trod enc Tryd.prog W base spare held n 23 [v1] = some y1 from g1) (parts_all (t := 23) hw 1 y1.1 rfl rfl)
    obtain ⟨pm, e2, _, _⟩ := DataW.trod_int Tryd.underlying35 (show DataW.trod enc Tryd.prog W base spare held n 35 [v2] = some y2 from g2)
    obtain ⟨who, s3, n3, _⟩ := open_ids (show DataW.trod enc Tryd.prog W base spare held n 23 [v3] = some y3 from g3) (parts_all (t := 23) hw 3 y3.1 rfl rfl)
    obtain ⟨m, e4, _⟩ := open_en (show DataW.trod enc Tryd.prog W base spare held n 39 [v4, v5, v6] = some y4 from g4) (parts_all (t := 39) hw 4 y4.1 rfl rfl)
    obtain ⟨o, e5, _⟩ := open_id (show DataW.trod enc Tryd.prog W base spare held n 37 [v7, v8] = some y5 from g5) (parts_all (t := 37) hw 5 y5.1 rfl rfl)
    simp only [List.cons.injEq, and_true] at e2
    subst e2
    unfold EnD.cells at e4
    unfold IdD.cells at e5
    simp only [List.cons.injEq, and_true] at e4 e5
    obtain ⟨rfl, rfl, rfl⟩ := e4
    obtain ⟨rfl, rfl⟩ := e5
    have t0 := SE_sees s0
    have t1 := SI_sees s1
    have t3 := SI_sees s3
    obtain ⟨la, lc, rfl, _⟩ := id t0
    obtain ⟨ma, mc, rfl, _⟩ := id t1
    obtain ⟨wa, wc, rfl, _⟩ := id t3
    have hr := reach_len
    exact ⟨l.map enOf, mk.map idOf, who.map idOf, pm, enOf m, idOf o, la, ma, wa, lc, mc, wc, rfl, t0, t1, t3, by rw [List.length_map]; omega, by rw [List.length_map]; omega, by rw [List.length_map]; omega⟩
end

end Go.Proofs.YtjakjbfeaiempaaDoor
