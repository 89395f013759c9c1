/- Requests and transactions that came in, opened: what the statement's reading says of their cells; no Go function is walked here. -/
import Derived.Test.YtoeialngbbfoeaaGreatDoorProg
import Derived.Test.YtoeialngbbfoeaaGreatDoorLeafSumJ
import Derived.ProofKit
import Derived.OpenShut
import Derived.ChangeOld
import Derived.Deep.Slices
import Derived.SizedLaws
namespace Go.Proofs.YtoeialngbbfoeaaGreatDoor
open Go.ChangeShapes Go.WideShapes Go.ChangeAt Go.RowKit
set_option maxRecDepth 8000

theorem addr_plus (b off n : Nat) : (⟨b, off, none⟩ : Addr).add n = ⟨b, off + n, none⟩ := by
  by_cases h : n = 0
  · subst h; simp [Addr.add]
  · simp [Addr.add, h]

theorem reach_lt : reachBytes ≤ 140737488355328 := by
  have := reachBytes_lt
  have h47 : (2 : Nat) ^ 47 = 140737488355328 := by decide
  omega

section
variable {H : Type} {enc : TypeId × Value → H} {W : World} {base : Nat} {spare : Nat → Bool} {held : Bool}

theorem weights_all_mem {P : Program} {e : TypeId} : ∀ {ds : List (DataW H)} {d : DataW H}, d ∈ ds → ∀ n ∈ d.weights P e, n ∈ DataW.weightsAll P e ds
  | d0 :: ds, d, hd, n, hn => by
    simp only [DataW.weightsAll, List.mem_append]
    rcases List.mem_cons.1 hd with rfl | hd
    · exact .inl hn
    · exact .inr (weights_all_mem hd n hn)

theorem list_map_of {α β : Type} {f : α → β} {Q : α → Prop} : ∀ {cs : List β}, (∀ c ∈ cs, ∃ x, c = f x ∧ Q x) → ∃ l : List α, cs = l.map f ∧ ∀ x ∈ l, Q x
  | [], _ => ⟨[], rfl, fun x hx => by simp at hx⟩
  | c :: cs, h => by
    obtain ⟨x, e, hq⟩ := h c (by simp)
    obtain ⟨l, e', hl⟩ := list_map_of (cs := cs) (fun c hc => h c (by simp [hc]))
    refine ⟨x :: l, by simp [e, e'], fun y hy => ?_⟩
    rcases List.mem_cons.1 hy with rfl | hy
    · exact hq
    · exact hl y hy

/-- A list of elements of z cells that came in. -/
theorem open_rows {t e : TypeId} {z : Nat} {fuel : Nat} {v : Value} {x : DataW H × List MemPlace} (ht : Tryz.prog.underlying t = some (.slice e)) (hz : Tryz.prog.cellsOf e = z) (hb : 1 ≤ Tryz.prog.bytesOf e) (hz0 : 0 < z)
    (h : DataW.trod enc Tryz.prog W base spare held fuel t [v] = some x) (hw : (x.1.weights Tryz.prog t).all (· ≤ reachBytes) = true) :
    ∃ cs : List (List Value), SeesR W v z cs ∧ cs.length ≤ reachBytes ∧ ∀ c ∈ cs, ∃ (n : Nat) (y : DataW H × List MemPlace), DataW.trod enc Tryz.prog W base spare held n e c = some y ∧ SizeOf.sizeOf y.1 < SizeOf.sizeOf x.1 ∧ (y.1.weights Tryz.prog e).all (· ≤ reachBytes) = true := by
  rcases Deep.open_slice ht h with ⟨hcs, _⟩ | ⟨a, len, cap, m, n, D, Pl, hcs, _, hl, hm, hmm, hx, hel⟩
  · simp at hcs
    subst hcs
    exact ⟨[], SeesR.nil W z, Nat.zero_le _, fun c hc => by simp at hc⟩
  · simp at hcs
    subst hcs
    have hlm : len ≤ m := by rw [hmm]; split <;> omega
    rw [hx] at hw
    simp only [DataW.weights, ht, List.all_cons, List.all_append, Bool.and_eq_true, decide_eq_true_eq, List.length_map, List.length_range] at hw
    have hwd : ∀ i, i < len → ((D i).weights Tryz.prog e).all (· ≤ reachBytes) = true := by
      intro i hi
      have := hw.2.1
      rw [List.all_eq_true] at this ⊢
      intro q hq
      exact this q (weights_all_mem (List.mem_map.2 ⟨i, List.mem_range.2 hi, rfl⟩) q hq)
    have each : ∀ i, i < len → ∃ c : List Value, c.length = z ∧ (∀ j, j < z → W.cell? (a.add (i * z + j)) = c[j]?) ∧ DataW.trod enc Tryz.prog W base spare held n e c = some (D i, Pl i) := by
      intro i hi
      obtain ⟨cs', h1, h2⟩ := hel i (by omega)
      rw [hz] at h1
      obtain ⟨_, hlen, hcell⟩ := World.cells?_some h1
      refine ⟨cs', hlen, fun j hj => ?_, h2⟩
      have := hcell j hj
      rw [Deep.add_add] at this
      exact this
    obtain ⟨C, hC⟩ := Deep.choose_lt each
    have hol : ((List.range len).map C).length = len := by simp
    refine ⟨(List.range len).map C, ⟨some a, cap, by rw [hol], by omega, hm, fun e => by simp at e, ?_⟩, ?_, fun c hc => ?_⟩
    · by_cases h0 : len = 0
      · subst h0; exact .inl rfl
      · obtain ⟨b, off, spot⟩ := a
        obtain ⟨hc1, hc2, _⟩ := hC 0 (by omega)
        have hc0 : W.cell? ((⟨b, off, spot⟩ : Addr).add (0 * z + 0)) = some ((C 0)[0]'(by omega)) := by
          rw [hc2 0 hz0, List.getElem?_eq_getElem]
        have hspot : spot = none := by simpa [Addr.add] using World.cell?_spot hc0
        subst hspot
        refine .inr ⟨b, off, rfl, fun i hi j hj => ?_⟩
        rw [hol] at hi
        obtain ⟨hq1, hq2, _⟩ := hC i hi
        have := hq2 j hj
        rw [addr_plus, ← Nat.add_assoc] at this
        rw [this]
        simp only [List.getElem_map, List.getElem_range]
        rw [List.getD_eq_getElem?_getD, List.getElem?_eq_getElem (by omega)]
        rfl
    · rw [hol]
      have h1 : len * 1 ≤ len * Tryz.prog.bytesOf e := Nat.mul_le_mul_left len hb
      have h2 : len * Tryz.prog.bytesOf e ≤ reachBytes := Nat.le_trans (Nat.mul_le_mul_right _ (Nat.le_add_right len (m - len))) hw.1
      omega
    · obtain ⟨i, hi, rfl⟩ := List.mem_map.1 hc
      have hi' := List.mem_range.1 hi
      refine ⟨n, (D i, Pl i), (hC i hi').2.2, ?_, hwd i hi'⟩
      rw [hx]
      have hmem : D i ∈ (List.range len).map D := List.mem_map.2 ⟨i, hi, rfl⟩
      have := List.sizeOf_lt_of_mem hmem
      simp only [DataW.slice.sizeOf_spec]
      omega

/-- The weights of a struct's parts. -/
theorem parts_all {t : TypeId} {ts : List TypeId} {ys : List (DataW H)} (hw : (DataW.weightsEach Tryz.prog ts ys).all (· ≤ reachBytes) = true) (j : Nat) (d : DataW H) (ht : ts[j]? = some t) (hd : ys[j]? = some d) : (d.weights Tryz.prog t).all (· ≤ reachBytes) = true := by
  rw [List.all_eq_true] at hw ⊢
  intro m hm
  exact hw m (DataW.weights_mem_each (ts := ts) ht hd m hm)

theorem open_id {fuel : Nat} {cs : List Value} {x : DataW H × List MemPlace} (h : DataW.trod enc Tryz.prog W base spare held fuel 103 cs = some x) (hw : (x.1.weights Tryz.prog 103).all (· ≤ reachBytes) = true) :
    ∃ d : IdD, cs = d.cells ∧ d.scheme.size ≤ reachBytes ∧ d.name.size ≤ reachBytes := by
  have hcells : Tryz.prog.cellsOf 103 = 2 := by kernel_rfl
  obtain ⟨xs, n, _, hx, hl, hxl, hf⟩ := DataW.trod_struct Tryz.underlying103 h
  rw [hcells] at hl
  have q4 : Tryz.prog.cellsOf 9 = 1 := by kernel_rfl
  have g0 : DataW.trod enc Tryz.prog W base spare held n 9 ((cs.drop 0).take (Tryz.prog.cellsOf 9)) = xs[0]? := hf 0 _ rfl
  have g1 : DataW.trod enc Tryz.prog W base spare held n 9 ((cs.drop 1).take (Tryz.prog.cellsOf 9)) = xs[1]? := hf 1 _ rfl
  have hxl2 : xs.length = 2 := hxl
  clear hf hxl
  match xs, hxl2, cs, hl with
  | [y0, y1], _, [v0, v1], _ =>
    rw [q4] at g0 g1
    obtain ⟨s0, e0, d0, _⟩ := DataW.trod_string Tryz.underlying9 (show DataW.trod enc Tryz.prog W base spare held n 9 [v0] = some y0 from g0)
    obtain ⟨s1, e1, d1, _⟩ := DataW.trod_string Tryz.underlying9 (show DataW.trod enc Tryz.prog W base spare held n 9 [v1] = some y1 from g1)
    simp at e0 e1
    subst e0 e1
    rw [hx] at hw
    simp only [DataW.weights, Tryz.underlying103] at hw
    have h0 := parts_all (t := 9) hw 0 y0.1 rfl rfl
    have h1 := parts_all (t := 9) hw 1 y1.1 rfl rfl
    rw [d0] at h0
    rw [d1] at h1
    simp [DataW.weights] at h0 h1
    exact ⟨⟨s0, s1⟩, rfl, h0, h1⟩

theorem open_en {fuel : Nat} {cs : List Value} {x : DataW H × List MemPlace} (h : DataW.trod enc Tryz.prog W base spare held fuel 105 cs = some x) (hw : (x.1.weights Tryz.prog 105).all (· ≤ reachBytes) = true) :
    ∃ d : EnD, cs = d.cells ∧ -128 ≤ d.perms ∧ d.perms ≤ 127 ∧ d.id.scheme.size ≤ reachBytes ∧ d.id.name.size ≤ reachBytes := by
  have hcells : Tryz.prog.cellsOf 105 = 3 := by kernel_rfl
  obtain ⟨xs, n, _, hx, hl, hxl, hf⟩ := DataW.trod_struct Tryz.underlying105 h
  rw [hcells] at hl
  have q1 : Tryz.prog.cellsOf 25 = 1 := by kernel_rfl
  have q2 : Tryz.prog.cellsOf 103 = 2 := by kernel_rfl
  have g0 : DataW.trod enc Tryz.prog W base spare held n 25 ((cs.drop 0).take (Tryz.prog.cellsOf 25)) = xs[0]? := hf 0 _ rfl
  have g1 : DataW.trod enc Tryz.prog W base spare held n 103 ((cs.drop 1).take (Tryz.prog.cellsOf 103)) = xs[1]? := hf 1 _ rfl
  have hxl2 : xs.length = 2 := hxl
  clear hf hxl
  match xs, hxl2, cs, hl with
  | [y0, y1], _, [v0, v1, v2], _ =>
    rw [q1] at g0
    rw [q2] at g1
    rw [hx] at hw
    simp only [DataW.weights, Tryz.underlying105] at hw
    have h1 := parts_all (t := 103) hw 1 y1.1 rfl rfl
    obtain ⟨p, e0, _, w0⟩ := DataW.trod_int Tryz.underlying25 (show DataW.trod enc Tryz.prog W base spare held n 25 [v0] = some y0 from g0)
    obtain ⟨d, e1, hs, hn⟩ := open_id (show DataW.trod enc Tryz.prog W base spare held n 103 [v1, v2] = some y1 from g1) h1
    simp at e0
    subst e0
    have hb := bounds_i8 w0
    refine ⟨⟨p, d⟩, ?_, hb.1, hb.2, hs, hn⟩
    rw [show [Value.int .i8 p, v1, v2] = .int .i8 p :: [v1, v2] from rfl, e1]
    rfl

theorem open_ids {fuel : Nat} {v : Value} {x : DataW H × List MemPlace} (h : DataW.trod enc Tryz.prog W base spare held fuel 30 [v] = some x) (hw : (x.1.weights Tryz.prog 30).all (· ≤ reachBytes) = true) :
    ∃ l : List IdD, SeesR W v 2 (l.map IdD.cells) ∧ l.length ≤ reachBytes ∧ ∀ d ∈ l, d.scheme.size ≤ reachBytes ∧ d.name.size ≤ reachBytes := by
  obtain ⟨cs, hs, hl, hc⟩ := open_rows Tryz.underlying30 (z := 2) (by kernel_rfl) (of_decide_eq_true (by kernel_rfl)) (by omega) h hw
  obtain ⟨l, rfl, hq⟩ := list_map_of (f := IdD.cells) (Q := fun d => d.scheme.size ≤ reachBytes ∧ d.name.size ≤ reachBytes) (cs := cs) (fun c hcc => by
    obtain ⟨n, y, h1, _, h3⟩ := hc c hcc
    exact open_id h1 h3)
  exact ⟨l, hs, by simpa using hl, hq⟩

theorem open_acl {fuel : Nat} {v : Value} {x : DataW H × List MemPlace} (h : DataW.trod enc Tryz.prog W base spare held fuel 29 [v] = some x) (hw : (x.1.weights Tryz.prog 29).all (· ≤ reachBytes) = true) :
    ∃ l : List EnD, SeesR W v 3 (l.map EnD.cells) ∧ l.length ≤ reachBytes ∧ ∀ d ∈ l, -128 ≤ d.perms ∧ d.perms ≤ 127 ∧ d.id.scheme.size ≤ reachBytes ∧ d.id.name.size ≤ reachBytes := by
  obtain ⟨cs, hs, hl, hc⟩ := open_rows Tryz.underlying29 (z := 3) (by kernel_rfl) (of_decide_eq_true (by kernel_rfl)) (by omega) h hw
  obtain ⟨l, rfl, hq⟩ := list_map_of (f := EnD.cells) (Q := fun d => -128 ≤ d.perms ∧ d.perms ≤ 127 ∧ d.id.scheme.size ≤ reachBytes ∧ d.id.name.size ≤ reachBytes) (cs := cs) (fun c hcc => by
    obtain ⟨n, y, h1, _, h3⟩ := hc c hcc
    exact open_en h1 h3)
  exact ⟨l, hs, by simpa using hl, hq⟩

theorem open_dat {fuel : Nat} {v : Value} {x : DataW H × List MemPlace} (h : DataW.trod enc Tryz.prog W base spare held fuel 28 [v] = some x) (hw : (x.1.weights Tryz.prog 28).all (· ≤ reachBytes) = true) :
    ∃ ys : List Int, Sees W v ys ∧ Byts ys ∧ ys.length ≤ reachBytes := by
  obtain ⟨cs, hs, hl, hc⟩ := open_rows Tryz.underlying28 (z := 1) (by kernel_rfl) (of_decide_eq_true (by kernel_rfl)) (by omega) h hw
  obtain ⟨l, rfl, hq⟩ := list_map_of (f := fun n : Int => [Value.int .u8 n]) (Q := fun n => 0 ≤ n ∧ n ≤ 255) (cs := cs) (fun c hcc => by
    obtain ⟨n, y, h1, _, _⟩ := hc c hcc
    obtain ⟨p, e0, _, w0⟩ := DataW.trod_int Tryz.underlying5 h1
    exact ⟨p, e0, bounds_u8 w0⟩)
  obtain ⟨ao, cap, rfl, h1, h2, h0, h3⟩ := hs
  refine ⟨l, ⟨ao, cap, by simp, by simpa using h1, h2, h0, ?_⟩, hq, by simpa using hl⟩
  rcases h3 with h3 | ⟨b, off, rfl, h3⟩
  · exact .inl (by simpa using h3)
  · refine .inr ⟨b, off, rfl, fun i hi => ?_⟩
    have := h3 i (by simpa using hi) 0 (by omega)
    simp at this
    rw [this, List.getD_eq_getElem?_getD, List.getElem?_eq_getElem hi]
    rfl
end
end Go.Proofs.YtoeialngbbfoeaaGreatDoor

/- Requests, transactions and lists of them that came in, opened; no Go function is walked here. -/
namespace Go.Proofs.YtoeialngbbfoeaaGreatDoor
open Go.ChangeShapes Go.WideShapes Go.ChangeAt Go.RowKit
set_option maxRecDepth 8000

section
variable {H : Type} {enc : TypeId × Value → H} {W : World} {base : Nat} {spare : Nat → Bool} {held : Bool}

theorem fn_of {n : Nat} {cs : List (List Value)} (hl : cs.length = n) {Q : List Value → Rq → Prop} (h : ∀ c ∈ cs, ∃ r, Q c r) : ∃ ops : Fin n → Rq, ∀ i : Fin n, Q (cs[i.1]'(by rw [hl]; exact i.2)) (ops i) := by
  refine ⟨fun i => Classical.choose (h (cs[i.1]'(by rw [hl]; exact i.2)) (List.getElem_mem _)), fun i => ?_⟩
  exact Classical.choose_spec (h (cs[i.1]'(by rw [hl]; exact i.2)) (List.getElem_mem _))

set_option maxHeartbeats 1000000 in
theorem open_rq : ∀ (N : Nat) {fuel : Nat} {cs : List Value} {x : DataW H × List MemPlace}, SizeOf.sizeOf x.1 < N → DataW.trod enc Tryz.prog W base spare held fuel 33 cs = some x → (x.1.weights Tryz.prog 33).all (· ≤ reachBytes) = true →
    ∃ r : Rq, SeesRq W cs r ∧ r.good
  | 0, _, _, _, hN, _, _ => by omega
  | N + 1, fuel, cs, x, hN, h, hw => by
    have hcells : Tryz.prog.cellsOf 33 = 11 := by kernel_rfl
    obtain ⟨xs, n, _, hx, hl, hxl, hf⟩ := DataW.trod_struct Tryz.underlying33 h
    rw [hcells] at hl
    have z0 : Tryz.prog.cellsOf 25 = 1 := by kernel_rfl
    have z1 : Tryz.prog.cellsOf 9 = 1 := by kernel_rfl
    have z2 : Tryz.prog.cellsOf 28 = 1 := by kernel_rfl
    have z3 : Tryz.prog.cellsOf 29 = 1 := by kernel_rfl
    have z4 : Tryz.prog.cellsOf 21 = 1 := by kernel_rfl
    have z5 : Tryz.prog.cellsOf 4 = 1 := by kernel_rfl
    have z6 : Tryz.prog.cellsOf 4 = 1 := by kernel_rfl
    have z7 : Tryz.prog.cellsOf 2 = 1 := by kernel_rfl
    have z8 : Tryz.prog.cellsOf 21 = 1 := by kernel_rfl
    have z9 : Tryz.prog.cellsOf 30 = 1 := by kernel_rfl
    have z10 : Tryz.prog.cellsOf 31 = 1 := by kernel_rfl
    have g0 : DataW.trod enc Tryz.prog W base spare held n 25 ((cs.drop 0).take (Tryz.prog.cellsOf 25)) = xs[0]? := hf 0 _ rfl
    have g1 : DataW.trod enc Tryz.prog W base spare held n 9 ((cs.drop 1).take (Tryz.prog.cellsOf 9)) = xs[1]? := hf 1 _ rfl
    have g2 : DataW.trod enc Tryz.prog W base spare held n 28 ((cs.drop 2).take (Tryz.prog.cellsOf 28)) = xs[2]? := hf 2 _ rfl
    have g3 : DataW.trod enc Tryz.prog W base spare held n 29 ((cs.drop 3).take (Tryz.prog.cellsOf 29)) = xs[3]? := hf 3 _ rfl
    have g4 : DataW.trod enc Tryz.prog W base spare held n 21 ((cs.drop 4).take (Tryz.prog.cellsOf 21)) = xs[4]? := hf 4 _ rfl
    have g5 : DataW.trod enc Tryz.prog W base spare held n 4 ((cs.drop 5).take (Tryz.prog.cellsOf 4)) = xs[5]? := hf 5 _ rfl
    have g6 : DataW.trod enc Tryz.prog W base spare held n 4 ((cs.drop 6).take (Tryz.prog.cellsOf 4)) = xs[6]? := hf 6 _ rfl
    have g7 : DataW.trod enc Tryz.prog W base spare held n 2 ((cs.drop 7).take (Tryz.prog.cellsOf 2)) = xs[7]? := hf 7 _ rfl
    have g8 : DataW.trod enc Tryz.prog W base spare held n 21 ((cs.drop 8).take (Tryz.prog.cellsOf 21)) = xs[8]? := hf 8 _ rfl
    have g9 : DataW.trod enc Tryz.prog W base spare held n 30 ((cs.drop 9).take (Tryz.prog.cellsOf 30)) = xs[9]? := hf 9 _ rfl
    have g10 : DataW.trod enc Tryz.prog W base spare held n 31 ((cs.drop 10).take (Tryz.prog.cellsOf 31)) = xs[10]? := hf 10 _ rfl
    have hxl2 : xs.length = 11 := hxl
    have hr := reach_lt
    clear hf hxl
    match xs, hxl2, cs, hl with
    | [y0, y1, y2, y3, y4, y5, y6, y7, y8, y9, y10], _, [v0, v1, v2, v3, v4, v5, v6, v7, v8, v9, v10], _ =>
      rw [z0] at g0
      rw [z1] at g1
      rw [z2] at g2
      rw [z3] at g3
      rw [z4] at g4
      rw [z5] at g5
      rw [z6] at g6
      rw [z7] at g7
      rw [z8] at g8
      rw [z9] at g9
      rw [z10] at g10
      have hsz : SizeOf.sizeOf y10.1 < SizeOf.sizeOf x.1 := by
        rw [hx]
        have hmem : y10.1 ∈ [y0, y1, y2, y3, y4, y5, y6, y7, y8, y9, y10].map (·.1) := by simp
        have := List.sizeOf_lt_of_mem hmem
        simp only [DataW.agg.sizeOf_spec]
        omega
      rw [hx] at hw
      simp only [DataW.weights, Tryz.underlying33] at hw
      have w1 := parts_all (t := 9) hw 1 y1.1 rfl rfl
      have w2 := parts_all (t := 28) hw 2 y2.1 rfl rfl
      have w3 := parts_all (t := 29) hw 3 y3.1 rfl rfl
      have w9 := parts_all (t := 30) hw 9 y9.1 rfl rfl
      have w10 := parts_all (t := 31) hw 10 y10.1 rfl rfl
      obtain ⟨kind, e0, _, b0⟩ := DataW.trod_int Tryz.underlying25 (show DataW.trod enc Tryz.prog W base spare held n 25 [v0] = some y0 from g0)
      obtain ⟨path, e1, d1, _⟩ := DataW.trod_string Tryz.underlying9 (show DataW.trod enc Tryz.prog W base spare held n 9 [v1] = some y1 from g1)
      obtain ⟨data, hd, hby, hdl⟩ := open_dat (show DataW.trod enc Tryz.prog W base spare held n 28 [v2] = some y2 from g2) w2
      obtain ⟨acl, ha, hal, hae⟩ := open_acl (show DataW.trod enc Tryz.prog W base spare held n 29 [v3] = some y3 from g3) w3
      obtain ⟨ver, e4, _, b4⟩ := DataW.trod_int Tryz.underlying21 (show DataW.trod enc Tryz.prog W base spare held n 21 [v4] = some y4 from g4)
      obtain ⟨eph, e5, _⟩ := DataW.trod_bool Tryz.underlying4 (show DataW.trod enc Tryz.prog W base spare held n 4 [v5] = some y5 from g5)
      obtain ⟨seq, e6, _⟩ := DataW.trod_bool Tryz.underlying4 (show DataW.trod enc Tryz.prog W base spare held n 4 [v6] = some y6 from g6)
      obtain ⟨ses, e7, _, b7⟩ := DataW.trod_int Tryz.underlying2 (show DataW.trod enc Tryz.prog W base spare held n 2 [v7] = some y7 from g7)
      obtain ⟨tmo, e8, _, b8⟩ := DataW.trod_int Tryz.underlying21 (show DataW.trod enc Tryz.prog W base spare held n 21 [v8] = some y8 from g8)
      obtain ⟨who, hwo, hwl, hwe⟩ := open_ids (show DataW.trod enc Tryz.prog W base spare held n 30 [v9] = some y9 from g9) w9
      obtain ⟨rows, ho, hol, hoe⟩ := open_rows Tryz.underlying31 (z := 11) (by kernel_rfl) (of_decide_eq_true (by kernel_rfl)) (by omega) (show DataW.trod enc Tryz.prog W base spare held n 31 [v10] = some y10 from g10) w10
      obtain ⟨ops, hops⟩ := fn_of (n := rows.length) rfl (Q := fun c r => SeesRq W c r ∧ r.good) (fun c hc => by
        obtain ⟨n', y, h1, h2, h3⟩ := hoe c hc
        exact open_rq N (x := y) (by omega) h1 h3)
      simp at e0 e1 e4 e5 e6 e7 e8
      subst e0 e1 e4 e5 e6 e7 e8
      rw [d1] at w1
      simp [DataW.weights] at w1
      have k0 := bounds_i8 b0
      have k4 := bounds_i32 b4
      have k7 := bounds_i64 b7
      have k8 := bounds_i32 b8
      have hof : List.ofFn (fun i : Fin rows.length => rows[i.1]) = rows := by
        apply List.ext_getElem
        · simp
        · intro j h1 h2; simp
      refine ⟨.mk ⟨kind, path, data, acl, ver, eph, seq, ses, tmo, who⟩ rows.length ops, .mk ⟨kind, path, data, acl, ver, eph, seq, ses, tmo, who⟩ rows.length ops v2 v3 v9 v10 (fun i => rows[i.1]) hd ha hwo (by rw [hof]; exact ho) (fun i => (hops i).1), ?_, by omega, fun i => (hops i).2⟩
      exact ⟨k0.1, k0.2, k4.1, k4.2, k7.1, k7.2, k8.1, k8.2, hby, by show path.size ≤ _; omega, by show data.length ≤ _; omega, by show acl.length ≤ _; omega, by show who.length ≤ _; omega, fun d hd' => by have := hae d hd'; exact ⟨this.1, this.2.1, by omega, by omega⟩, fun d hd' => by have := hwe d hd'; exact ⟨by omega, by omega⟩⟩
end
end Go.Proofs.YtoeialngbbfoeaaGreatDoor

/- Transactions and lists of them that came in, opened; no Go function is walked here. -/
namespace Go.Proofs.YtoeialngbbfoeaaGreatDoor
open Go.ChangeShapes Go.WideShapes Go.ChangeAt Go.RowKit
set_option maxRecDepth 8000

section
variable {H : Type} {enc : TypeId × Value → H} {W : World} {base : Nat} {spare : Nat → Bool} {held : Bool}

theorem open_u32x2 {fuel : Nat} {c0 c1 : Value} {x : DataW H × List MemPlace} (h : DataW.trod enc Tryz.prog W base spare held fuel 24 [c0, c1] = some x) :
    ∃ e n : Int, c0 = .int .u32 e ∧ c1 = .int .u32 n ∧ 0 ≤ e ∧ e ≤ 4294967295 ∧ 0 ≤ n ∧ n ≤ 4294967295 := by
  obtain ⟨xs, n, _, hx, hl, hxl, hf⟩ := DataW.trod_struct Tryz.underlying24 h
  have q : Tryz.prog.cellsOf 22 = 1 := by kernel_rfl
  have g0 : DataW.trod enc Tryz.prog W base spare held n 22 (([c0, c1].drop 0).take (Tryz.prog.cellsOf 22)) = xs[0]? := hf 0 _ rfl
  have g1 : DataW.trod enc Tryz.prog W base spare held n 22 (([c0, c1].drop 1).take (Tryz.prog.cellsOf 22)) = xs[1]? := hf 1 _ rfl
  have hxl2 : xs.length = 2 := hxl
  clear hf hxl
  match xs, hxl2 with
  | [y0, y1], _ =>
    rw [q] at g0 g1
    obtain ⟨a, e0, _, b0⟩ := DataW.trod_int Tryz.underlying22 (show DataW.trod enc Tryz.prog W base spare held n 22 [c0] = some y0 from g0)
    obtain ⟨b, e1, _, b1⟩ := DataW.trod_int Tryz.underlying22 (show DataW.trod enc Tryz.prog W base spare held n 22 [c1] = some y1 from g1)
    simp at e0 e1
    have k0 := bounds_u32 b0
    have k1 := bounds_u32 b1
    exact ⟨a, b, e0, e1, k0.1, k0.2, k1.1, k1.2⟩

theorem open_org {fuel : Nat} {c0 c1 c2 : Value} {x : DataW H × List MemPlace} (h : DataW.trod enc Tryz.prog W base spare held fuel 27 [c0, c1, c2] = some x) :
    ∃ s b m : Int, c0 = .int .i8 s ∧ c1 = .int .u32 b ∧ c2 = .int .i64 m ∧ -128 ≤ s ∧ s ≤ 127 ∧ 0 ≤ b ∧ b ≤ 4294967295 ∧ -9223372036854775808 ≤ m ∧ m ≤ 9223372036854775807 := by
  obtain ⟨xs, n, _, hx, hl, hxl, hf⟩ := DataW.trod_struct Tryz.underlying27 h
  have q0 : Tryz.prog.cellsOf 25 = 1 := by kernel_rfl
  have q1 : Tryz.prog.cellsOf 22 = 1 := by kernel_rfl
  have q2 : Tryz.prog.cellsOf 2 = 1 := by kernel_rfl
  have g0 : DataW.trod enc Tryz.prog W base spare held n 25 (([c0, c1, c2].drop 0).take (Tryz.prog.cellsOf 25)) = xs[0]? := hf 0 _ rfl
  have g1 : DataW.trod enc Tryz.prog W base spare held n 22 (([c0, c1, c2].drop 1).take (Tryz.prog.cellsOf 22)) = xs[1]? := hf 1 _ rfl
  have g2 : DataW.trod enc Tryz.prog W base spare held n 2 (([c0, c1, c2].drop 2).take (Tryz.prog.cellsOf 2)) = xs[2]? := hf 2 _ rfl
  have hxl2 : xs.length = 3 := hxl
  clear hf hxl
  match xs, hxl2 with
  | [y0, y1, y2], _ =>
    rw [q0] at g0
    rw [q1] at g1
    rw [q2] at g2
    obtain ⟨a, e0, _, b0⟩ := DataW.trod_int Tryz.underlying25 (show DataW.trod enc Tryz.prog W base spare held n 25 [c0] = some y0 from g0)
    obtain ⟨b, e1, _, b1⟩ := DataW.trod_int Tryz.underlying22 (show DataW.trod enc Tryz.prog W base spare held n 22 [c1] = some y1 from g1)
    obtain ⟨m, e2, _, b2⟩ := DataW.trod_int Tryz.underlying2 (show DataW.trod enc Tryz.prog W base spare held n 2 [c2] = some y2 from g2)
    simp at e0 e1 e2
    have k0 := bounds_i8 b0
    have k1 := bounds_u32 b1
    have k2 := bounds_i64 b2
    exact ⟨a, b, m, e0, e1, e2, k0.1, k0.2, k1.1, k1.2, k2.1, k2.2⟩

theorem open_tx {fuel : Nat} {cs : List Value} {x : DataW H × List MemPlace} (h : DataW.trod enc Tryz.prog W base spare held fuel 35 cs = some x) (hw : (x.1.weights Tryz.prog 35).all (· ≤ reachBytes) = true) :
    ∃ t : TxD, SeesTx W cs t ∧ t.good := by
  have hcells : Tryz.prog.cellsOf 35 = 16 := by kernel_rfl
  obtain ⟨xs, n, _, hx, hl, hxl, hf⟩ := DataW.trod_struct Tryz.underlying35 h
  rw [hcells] at hl
  have q0 : Tryz.prog.cellsOf 24 = 2 := by kernel_rfl
  have q1 : Tryz.prog.cellsOf 27 = 3 := by kernel_rfl
  have q2 : Tryz.prog.cellsOf 33 = 11 := by kernel_rfl
  have g0 : DataW.trod enc Tryz.prog W base spare held n 24 ((cs.drop 0).take (Tryz.prog.cellsOf 24)) = xs[0]? := hf 0 _ rfl
  have g1 : DataW.trod enc Tryz.prog W base spare held n 27 ((cs.drop 2).take (Tryz.prog.cellsOf 27)) = xs[1]? := hf 1 _ rfl
  have g2 : DataW.trod enc Tryz.prog W base spare held n 33 ((cs.drop 5).take (Tryz.prog.cellsOf 33)) = xs[2]? := hf 2 _ rfl
  have hxl2 : xs.length = 3 := hxl
  clear hf hxl
  match xs, hxl2, cs, hl with
  | [y0, y1, y2], _, [v0, v1, v2, v3, v4, v5, v6, v7, v8, v9, v10, v11, v12, v13, v14, v15], _ =>
    rw [q0] at g0
    rw [q1] at g1
    rw [q2] at g2
    rw [hx] at hw
    simp only [DataW.weights, Tryz.underlying35] at hw
    have w2 := parts_all (t := 33) hw 2 y2.1 rfl rfl
    obtain ⟨e, nn, rfl, rfl, a1, a2, a3, a4⟩ := open_u32x2 (show DataW.trod enc Tryz.prog W base spare held n 24 [v0, v1] = some y0 from g0)
    obtain ⟨s, b, m, rfl, rfl, rfl, b1, b2, b3, b4, b5, b6⟩ := open_org (show DataW.trod enc Tryz.prog W base spare held n 27 [v2, v3, v4] = some y1 from g1)
    obtain ⟨r, hr, hg⟩ := open_rq _ (Nat.lt_succ_self _) (show DataW.trod enc Tryz.prog W base spare held n 33 [v5, v6, v7, v8, v9, v10, v11, v12, v13, v14, v15] = some y2 from g2) w2
    exact ⟨⟨e, nn, s, b, m, r⟩, ⟨_, rfl, hr⟩, ⟨a1, a2, a3, a4, b1, b2, b3, b4, b5, b6, hg⟩⟩

end
end Go.Proofs.YtoeialngbbfoeaaGreatDoor
