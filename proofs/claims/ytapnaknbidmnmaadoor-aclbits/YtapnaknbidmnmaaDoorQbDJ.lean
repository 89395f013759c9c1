/- What acl.address answers. -/
import Derived.Test.YtapnaknbidmnmaaDoorQbBJ
import Derived.Test.YtapnaknbidmnmaaDoorQbCJ
import Derived.Scope
import Derived.ArgAppend
import Derived.Deep.AppendLies
import Derived.Maps.AppendAt
import Derived.Laws.Cover3
namespace Go.Proofs.YtapnaknbidmnmaaDoor
open Go.RowKit Go.Shelf
set_option maxRecDepth 8000
attribute [local go_sem] Oper.semAt_some

/-- The world behind SplitSeq. -/
def splW (s : ByteArray) (w : World) : World := ((w.alloc (.cells #[.string s] 9)).alloc (.cells #[.string dotB] 9)).alloc (.cells #[.int .i64 0] 3)

theorem splitSeq_any (s : ByteArray) (w : World) : Calls Tryd.prog 59 #[.string s, .string dotB, .int .i64 0] w fun e w' => e = .returned (.func (.func 61) #[] #[.pointer (some ⟨w.heap.size + 1, 0, none⟩), .pointer (some ⟨w.heap.size, 0, none⟩), .pointer (some ⟨w.heap.size + 2, 0, none⟩)]) ∧ w' = splW s w := by
  have hmf : ∀ (fn : Fn) (first cap : Array Value) (w : World), (Instr.makeFunc fn first cap).run Tryd.prog w = .ok (.func fn first cap) w := fun _ _ _ _ => rfl
  go_enter Tryd.func59, Tryd.ntmps59
  go_wp2
  go_ret
  exact ⟨rfl, rfl⟩

theorem splitSeq2_any (s : ByteArray) (w : World) : Calls Tryd.prog 56 #[.string s, .string dotB] w fun e w' => e = .returned (.func (.func 61) #[] #[.pointer (some ⟨w.heap.size + 1, 0, none⟩), .pointer (some ⟨w.heap.size, 0, none⟩), .pointer (some ⟨w.heap.size + 2, 0, none⟩)]) ∧ w' = splW s w := by
  go_enter Tryd.func56, Tryd.ntmps56
  go_wp2_with (go_at_call 59; refine (splitSeq_any _ _).mono ?_; rintro e w' ⟨rfl, rfl⟩)
  go_ret
  exact ⟨rfl, rfl⟩

theorem Tryd.infoU8q : (Tryd.prog.info? 5).map (fun i => (i.zero, i.size, i.bytes)) = some (some (.int .u8 0), 1, 1) := by kernel_rfl

theorem row_keptq {w w' : World} {S : Blocks} {base n : Nat} {t : TypeId} {v : Value} {xs : List Value} (h : w.ownsRow base t 1 v n xs) (hk : Kept w w' S) (hn : ∀ k, v.ownBlock = some k → ¬ S k) : w'.ownsRow base t 1 v n xs := by
  refine ⟨h.1, ?_⟩
  rcases h.2 with h | ⟨g, cap, cur, rfl, h1, h2, h3⟩
  · exact .inl h
  · exact .inr ⟨g, cap, cur, rfl, h1, hk.heap h2 (hn g rfl), h3⟩

theorem row_atq {w : World} {base n k : Nat} {t : TypeId} {v : Value} {xs : List Value} (h : w.ownsRow base t 1 v n xs) (hk : v.ownBlock = some k) : (∃ cs, w.heap[k]? = some (.cells cs t (0, 0))) ∧ base ≤ k ∧ k < w.heap.size := by
  rcases h.2 with ⟨rfl, _⟩ | ⟨g, cap, cur, rfl, hb, hr, _⟩
  · simp [Value.ownBlock] at hk
  · simp [Value.ownBlock] at hk
    subst hk
    exact ⟨⟨_, hr⟩, hb, lt_of_block hr⟩

theorem row_shapeq {w : World} {base n : Nat} {t : TypeId} {v : Value} {xs : List Value} (h : w.ownsRow base t 1 v n xs) : ∃ ao c, v = .slice ao n c := by
  rcases h.2 with ⟨rfl, h0⟩ | ⟨g, cap, cur, rfl, _⟩
  · exact ⟨none, 0, by rw [h0]⟩
  · exact ⟨_, _, rfl⟩

theorem ne_tyq {w : World} {x y : Nat} {c1 c2 : Array Value} {T1 T2 : TypeId} {f1 f2 : Nat × Nat} (h1 : w.heap[x]? = some (.cells c1 T1 f1)) (h2 : w.heap[y]? = some (.cells c2 T2 f2)) (h : T1 ≠ T2) : x ≠ y := by
  intro e
  subst e
  rw [h1] at h2
  simp at h2
  exact h h2.2.1

theorem kept_grownq {V w1 : World} {o : Obj} {row : Option Nat} (h : (V.alloc o).grownBy w1 row) : Kept V w1 (fun k => row = some k) :=
  ((Kept.refl V _).alloc o).grown h (fun _ _ e => e)

abbrev u8V (n : Nat) : Value := .int .u8 (n : Int)

/-- Block B holds the list of the bytes that have come; none of its blocks is the iterator's. -/
structure GathB (n₀ B : Nat) (D : Blocks) (pre : List Nat) (v : Value) (V : World) : Prop where
  box : V.heap[B]? = some (.cells #[v] 80 (0, 0))
  row : V.ownsRow n₀ 5 1 v pre.length (pre.map u8V)
  dB : ¬ D B
  dv : ∀ k, v.ownBlock = some k → ¬ D k
  dl : ∀ k, D k → k < V.heap.size

theorem GathB.stays {n₀ B : Nat} {D0 D D' : Blocks} {pre : List Nat} {v : Value} {V V' : World} (h : GathB n₀ B D pre v V) (hk : Kept V V' (fun k => D k ∧ ¬ D0 k)) (hD : ∀ k, D' k → D k ∨ (V.heap.size ≤ k ∧ k < V'.heap.size)) : GathB n₀ B D' pre v V' := by
  have far : ∀ k, k < V.heap.size → ¬ D k → ¬ D' k := fun k hl hn h' => by
    rcases hD k h' with h' | h'
    · exact hn h'
    · omega
  exact {
    box := hk.heap h.box (fun hd => h.dB hd.1)
    row := row_keptq h.row hk (fun k e hd => h.dv k e hd.1)
    dB := far _ (lt_of_block h.box) h.dB
    dv := fun k e => far k (row_atq h.row e).2.2 (h.dv k e)
    dl := fun k hd => by
      have hs := hk.size
      rcases hD k hd with h' | h'
      · have := h.dl k h'; omega
      · exact h'.2 }

set_option maxHeartbeats 400000 in
/-- One round: a byte more. -/
theorem gathB_round {n₀ B : Nat} {D : Blocks} {pre : List Nat} {v : Value} {V : World} (G : GathB n₀ B D pre v V) (x : Nat) (hlen : pre.length ≤ 4000000000) (hn₀ : n₀ ≤ V.heap.size) :
    ∃ g1 c1 w1,
      (Builtin.append_ #[80, 80] 80 #[v, .slice (some ⟨V.heap.size, 0, none⟩) 1 1]).run Tryd.prog (V.alloc (.cells #[u8V x] 5)) = .ok (.slice (some ⟨g1, 0, none⟩) (pre.length + 1) c1) w1 ∧
      w1.cell? ⟨B, 0, none⟩ = some v ∧ w1.frozen? ⟨B, 0, none⟩ = false ∧
      GathB n₀ B D (pre ++ [x]) (.slice (some ⟨g1, 0, none⟩) (pre.length + 1) c1) (w1.setCell ⟨B, 0, none⟩ (.slice (some ⟨g1, 0, none⟩) (pre.length + 1) c1)) ∧
      Kept V (w1.setCell ⟨B, 0, none⟩ (.slice (some ⟨g1, 0, none⟩) (pre.length + 1) c1)) (fun k => k = B ∨ v.ownBlock = some k) := by
  obtain ⟨i0, hi, hz0, hz1, hz2⟩ := info_parts Tryd.infoU8q
  obtain ⟨g1, c1, w1, hr1, ow1, gr1, li1, lt1⟩ := run_append_lies (P := Tryd.prog) (V.alloc (.cells #[u8V x] 5)) 80 80 n₀ 5 i0 (.int .u8 0) 1 1 Tryd.underlying80 hi hz0 hz1 hz2 rfl (by decide) v pre.length (pre.map u8V) (G.row.alloc _) ⟨V.heap.size, 0, none⟩ 1 1 [u8V x] rfl (cell_one_new _ _ _) (by simp [Value.oneCell', u8V]) (by decide) (by unfold maxLen; omega) (by omega) (by simp; omega) (V.heap.size + 1) (by simp)
  have k1 : Kept V w1 (fun k => v.ownBlock = some k) := kept_grownq gr1
  have nvB : v.ownBlock ≠ some B := fun e => by
    obtain ⟨⟨cs, h1⟩, _⟩ := row_atq G.row e
    exact ne_tyq h1 G.box (by decide) rfl
  have hb1 : w1.heap[B]? = some (.cells #[v] 80 (0, 0)) := k1.heap G.box nvB
  obtain ⟨v', hv'⟩ : ∃ v', v' = Value.slice (some ⟨g1, 0, none⟩) (pre.length + 1) c1 := ⟨_, rfl⟩
  have k2 : Kept w1 (w1.setCell ⟨B, 0, none⟩ v') (· = B) := (Kept.refl w1 _).setCell ⟨B, 0, none⟩ _ (fun _ => rfl)
  have g1B : g1 ≠ B := fun e => by
    obtain ⟨⟨cs, h1⟩, _⟩ := row_atq ow1 (rfl : (Value.slice (some ⟨g1, 0, none⟩) (pre.length + 1) c1).ownBlock = some g1)
    exact ne_tyq h1 hb1 (by decide) e
  have ow2 : (w1.setCell ⟨B, 0, none⟩ v').ownsRow n₀ 5 1 v' (pre.length + 1) (pre.map u8V ++ [u8V x]) := by
    rw [hv'] at k2 ⊢
    exact row_keptq ow1 k2 (fun k e e' => by subst e'; simp [Value.ownBlock] at e; exact g1B e)
  have kall : Kept V (w1.setCell ⟨B, 0, none⟩ v') (fun k => k = B ∨ v.ownBlock = some k) := (k1.mono (fun k _ e => .inr e)).trans k2 (fun k _ e => .inl e)
  refine ⟨g1, c1, w1, hr1, cell_of_row w1 B 0 _ _ _ hb1, frozen_of_row w1 B 0 _ _ hb1, ?_, ?_⟩
  · rw [← hv']
    exact {
      box := Boxed.set _ hb1
      row := by
        have e : (pre ++ [x]).length = pre.length + 1 := by simp
        rw [e, List.map_append]
        exact ow2
      dB := G.dB
      dv := fun k e => by
        rw [hv'] at e
        simp [Value.ownBlock] at e
        subst e
        rcases li1 with h | h
        · exact G.dv g1 h
        · intro hd; have := G.dl g1 hd; omega
      dl := fun k hd => by have := G.dl k hd; have := kall.size; omega }
  · rw [← hv']
    exact kall

/-- What lay below B0 lies as it lay; what the iterator has lies beyond. -/
def MineS (B0 : Nat) (w : World) (D : Blocks) (W : World) : Prop := B0 ≤ w.heap.size ∧ Below B0 w W ∧ ∀ k, D k → B0 ≤ k

theorem MineS.stays {B0 : Nat} {w : World} {D0 D D' : Blocks} {W W' : World} (h : MineS B0 w D W) (hk : Kept W W' (fun k => D k ∧ ¬ D0 k)) (hD : ∀ k, D' k → D k ∨ (W.heap.size ≤ k ∧ k < W'.heap.size)) : MineS B0 w D' W' := by
  obtain ⟨h0, h1, h2⟩ := h
  refine ⟨h0, h1.trans ⟨hk.os, hk.tape, hk.output, hk.size, fun k hlt => hk.block k (by have := h1.size; omega) (fun hd => by have := h2 k hd.1; omega)⟩, fun k hd => ?_⟩
  rcases hD k hd with h | h
  · exact h2 k h
  · have := h1.size; omega

theorem keep_newq {D D' : Blocks} {W W' : World} {B : Nat} {o : Obj} (hB : W.heap[B]? = some o) (hn : ¬ D B) (hD : ∀ k, D' k → D k ∨ (W.heap.size ≤ k ∧ k < W'.heap.size)) : ¬ D' B := fun h => by
  have := lt_of_block hB
  rcases hD B h with h | h
  · exact hn h
  · omega

theorem flds_le (c : UInt8) : ∀ (n : Nat) (l x : Bs), l.length ≤ n → x ∈ flds c l → x.length ≤ l.length
  | 0, l, x, hn, h => by
    have : l = [] := List.length_eq_zero_iff.1 (by omega)
    subst this
    simp [flds] at h
    simp [h]
  | n + 1, l, x, hn, h => by
    rcases flds_step c l with ⟨_, h2⟩ | ⟨_, h2, h3⟩
    · rw [h2] at h
      simp at h
      rw [h]
      exact Nat.le_refl _
    · have hlen := congrArg List.length h2
      simp at hlen
      rw [h3, List.mem_cons] at h
      rcases h with rfl | h
      · omega
      · have := flds_le c n (tlC c l) x (by omega) h
        omega

theorem alloc_newq {w : World} {o : Obj} {n : Nat} (h : n = w.heap.size) : (w.alloc o).heap[n]? = some o := by subst h; exact heap_alloc_new _ _

theorem row_cellq {V : World} {base n : Nat} {t : TypeId} {v : Value} {xs : List Value} (h : V.ownsRow base t 1 v n xs) (hn : 0 < n) : ∃ g c, v = .slice (some ⟨g, 0, none⟩) n c ∧ base ≤ g ∧ g < V.heap.size ∧ ∀ i, i < n → V.cell? ⟨g, i, none⟩ = xs[i]? := by
  rcases h.2 with ⟨_, h0⟩ | ⟨g, cap, cur, hv, hb, hr, _⟩
  · omega
  · subst hv
    refine ⟨g, cap, rfl, hb, lt_of_block hr, fun i hi => ?_⟩
    exact h.cellAt i (by omega)
theorem sees_len3 {V : World} {base n c : Nat} {t : TypeId} {a : Option Addr} {xs : List Value} (h : V.ownsRow base t 1 (.slice a n c) n xs) : n ≤ c ∧ c ≤ 9223372036854775807 := by
  rcases h.2 with ⟨e, h0⟩ | ⟨g, cap, cur, hv, hb, hr, h1, h2, h3⟩
  · simp at e
    omega
  · simp at hv
    obtain ⟨_, rfl⟩ := hv
    unfold maxLen at h2
    exact ⟨h1, h2⟩

/-- Four noughts, and no. -/
abbrev zero4 : Array Value := #[.int .u8 0, .int .u8 0, .int .u8 0, .int .u8 0]

/-- What address answers. -/
def adDV (l : Bs) : Value := match adD l with
  | some [a, b, c, d] => .tuple #[.agg #[.int .u8 (a : Int), .int .u8 (b : Int), .int .u8 (c : Int), .int .u8 (d : Int)], .bool true]
  | _ => .tuple #[.agg zero4, .bool false]

theorem adD_bad {l : Bs} {pre t : List Bs} {x : Bs} (h : flds 46 l = pre ++ x :: t) (hx : numF 255 x = none ∨ pre.length = 4) : adD l = none := by
  unfold adD
  rw [if_neg]
  rintro ⟨h4, hall⟩
  rcases hx with hx | hx
  · rw [List.all_eq_true] at hall
    have := hall x (by rw [h]; simp)
    rw [hx] at this
    simp at this
  · rw [h] at h4
    simp at h4
    omega

theorem heap_setq {w : World} {b i : Nat} {cs : Array Value} {t : TypeId} {fr : Nat × Nat} (c : Value) (h : w.heap[b]? = some (.cells cs t fr)) : (w.setCell ⟨b, i, none⟩ c).heap[b]? = some (.cells (cs.setIfInBounds i c) t fr) := by
  rw [setCell_eq_setRow w b i cs t fr c h]
  exact setRow_heap w b cs _ t fr h

/-- Four bytes and a Bool stored. -/
def putA (n : Nat) (a b c d : Value) (r : Value) (w : World) : World := ((((w.setCell ⟨n, 0, none⟩ a).setCell ⟨n, 1, none⟩ b).setCell ⟨n, 2, none⟩ c).setCell ⟨n, 3, none⟩ d).setCell ⟨n + 1, 0, none⟩ r

theorem putA_at {n : Nat} {x y z u a b c d q r : Value} {w : World} (h0 : w.heap[n]? = some (.cells #[x, y, z, u] 73 (0, 0))) (h1 : w.heap[n + 1]? = some (.cells #[q] 4 (0, 0))) :
    (putA n a b c d r w).heap[n]? = some (.cells #[a, b, c, d] 73 (0, 0)) ∧ (putA n a b c d r w).heap[n + 1]? = some (.cells #[r] 4 (0, 0)) ∧ Kept w (putA n a b c d r w) (fun k => k = n ∨ k = n + 1) := by
  have k1 : Kept w (putA n a b c d r w) (fun k => k = n ∨ k = n + 1) :=
    (((((Kept.refl w _).setCell ⟨n, 0, none⟩ _ (fun _ => .inl rfl)).setCell ⟨n, 1, none⟩ _ (fun _ => .inl rfl)).setCell ⟨n, 2, none⟩ _ (fun _ => .inl rfl)).setCell ⟨n, 3, none⟩ _ (fun _ => .inl rfl)).setCell ⟨n + 1, 0, none⟩ _ (fun _ => .inr rfl)
  refine ⟨?_, ?_, k1⟩
  · unfold putA
    rw [Below.heap_setCell _ _ _ _ (by show n ≠ n + 1; omega)]
    exact heap_setq _ (heap_setq _ (heap_setq _ (heap_setq _ h0)))
  · unfold putA
    refine heap_setq (cs := #[q]) _ ?_
    rw [Below.heap_setCell _ _ _ _ (by show n + 1 ≠ n; omega), Below.heap_setCell _ _ _ _ (by show n + 1 ≠ n; omega), Below.heap_setCell _ _ _ _ (by show n + 1 ≠ n; omega), Below.heap_setCell _ _ _ _ (by show n + 1 ≠ n; omega)]
    exact h1

theorem cells4 {w : World} {n : Nat} {a b c d : Value} {t : TypeId} (h : w.heap[n]? = some (.cells #[a, b, c, d] t (0, 0))) : (w.cell? ⟨n, 0, none⟩ = some a ∧ w.cell? ⟨n, 1, none⟩ = some b ∧ w.cell? ⟨n, 2, none⟩ = some c ∧ w.cell? ⟨n, 3, none⟩ = some d) ∧ (w.frozen? ⟨n, 0, none⟩ = false ∧ w.frozen? ⟨n, 1, none⟩ = false ∧ w.frozen? ⟨n, 2, none⟩ = false ∧ w.frozen? ⟨n, 3, none⟩ = false) :=
  ⟨⟨cell_of_row w n 0 _ _ _ h, cell_of_row w n 1 _ _ _ h, cell_of_row w n 2 _ _ _ h, cell_of_row w n 3 _ _ _ h⟩, frozen_of_row w n 0 _ _ h, frozen_of_row w n 1 _ _ h, frozen_of_row w n 2 _ _ h, frozen_of_row w n 3 _ _ h⟩

theorem results_addr (tm : Array Value) (n : Nat) (WW : World) {a b c e r : Value} (h2 : tm.getD 2 undef = .pointer (some ⟨n, 0, none⟩)) (h3 : tm.getD 3 undef = .pointer (some ⟨n + 1, 0, none⟩))
    (m0 : WW.cell? ⟨n, 0, none⟩ = some a) (m1 : WW.cell? ⟨n, 1, none⟩ = some b) (m2 : WW.cell? ⟨n, 2, none⟩ = some c) (m3 : WW.cell? ⟨n, 3, none⟩ = some e) (m4 : WW.cell? ⟨n + 1, 0, none⟩ = some r) :
    (results Tryd.f51 tm).run Tryd.prog WW = .ok (.tuple #[.agg #[a, b, c, e], r]) WW := by
  have hres : Tryd.f51.results = #[.cell 2 73, .cell 3 4] := by kernel_rfl
  have h2' : tm[2]?.getD undef = .pointer (some ⟨n, 0, none⟩) := by rw [← Array.getD_eq_getD_getElem?]; exact h2
  have h3' : tm[3]?.getD undef = .pointer (some ⟨n + 1, 0, none⟩) := by rw [← Array.getD_eq_getD_getElem?]; exact h3
  simp only [results, hres]
  go_simp

set_option maxHeartbeats 2000000 in
theorem address2_any (s : ByteArray) (w : World) (hl : s.size ≤ 4294967296) :
    Calls Tryd.prog 51 #[.string s] w fun e w' => e = .returned (adDV s.data.toList) ∧ Below w.heap.size w w' := by
  have HL : Hid (s.size ≤ 4294967296) := hl
  refine (callsIn_wide (n := 0)).1 ?_
  refine callsIn_of_wp_marks Tryd.func51 rfl trivial ?_ rfl
  simp only [Tryd.ntmps51, List.size_toArray, List.length_cons, List.length_nil, Nat.reduceAdd, Nat.reduceSub, Array.replicate_succ, Array.replicate_zero, List.push_toArray, List.append_toArray, List.nil_append, List.cons_append]
  gi_wp2_with fail
  refine ⟨trivial, rfl, (callsIn_wide.2 (splitSeq2_any _ _)).mono ?_⟩
  rintro e w1 ⟨rfl, rfl⟩
  gi_wp2_with fail
  obtain ⟨W0, hW0⟩ : ∃ W0, splW s (((w.alloc (.cells zero4 73)).alloc (.cells #[.bool false] 4)).alloc (.cells #[.slice none 0 0] 80)) = W0 := ⟨_, rfl⟩
  have b0 : W0.heap[w.heap.size]? = some (.cells zero4 73 (0, 0)) := by
    rw [← hW0]; unfold splW; rw [Below.heap_alloc _ _ _ (by simp only [World.size_alloc]; omega)]; rw [Below.heap_alloc _ _ _ (by simp only [World.size_alloc]; omega)]; rw [Below.heap_alloc _ _ _ (by simp only [World.size_alloc]; omega)]; rw [Below.heap_alloc _ _ _ (by simp only [World.size_alloc]; omega)]; rw [Below.heap_alloc _ _ _ (by simp only [World.size_alloc]; omega)]; exact alloc_newq rfl
  have b1 : W0.heap[w.heap.size + 1]? = some (.cells #[.bool false] 4 (0, 0)) := by
    rw [← hW0]; unfold splW; rw [Below.heap_alloc _ _ _ (by simp only [World.size_alloc]; omega)]; rw [Below.heap_alloc _ _ _ (by simp only [World.size_alloc]; omega)]; rw [Below.heap_alloc _ _ _ (by simp only [World.size_alloc]; omega)]; rw [Below.heap_alloc _ _ _ (by simp only [World.size_alloc]; omega)]; exact alloc_newq (by simp only [World.size_alloc])
  have b2 : W0.heap[w.heap.size + 2]? = some (.cells #[.slice none 0 0] 80 (0, 0)) := by
    rw [← hW0]; unfold splW; rw [Below.heap_alloc _ _ _ (by simp only [World.size_alloc]; omega)]; rw [Below.heap_alloc _ _ _ (by simp only [World.size_alloc]; omega)]; rw [Below.heap_alloc _ _ _ (by simp only [World.size_alloc]; omega)]; exact alloc_newq (by simp only [World.size_alloc])
  have b3 : Spl (w.heap.size + 3) s.data.toList W0 := by
    rw [← hW0]
    refine ⟨?_, ?_, ?_⟩
    · rw [show bytesV s.data.toList = .string s by unfold bytesV; rw [bytes_self]]; unfold splW; rw [Below.heap_alloc _ _ _ (by simp only [World.size_alloc]; omega)]; rw [Below.heap_alloc _ _ _ (by simp only [World.size_alloc]; omega)]; exact alloc_newq (by simp only [World.size_alloc])
    · unfold splW; rw [Below.heap_alloc _ _ _ (by simp only [World.size_alloc]; omega)]; exact alloc_newq (by simp only [World.size_alloc])
    · unfold splW; exact alloc_newq (by simp only [World.size_alloc])
  have B0 : Below w.heap.size w W0 := by
    rw [← hW0]
    exact ((((((Below.refl _ w).alloc (Nat.le_refl _) _).alloc (by simp) _).alloc (by simp; omega) _).alloc (by simp; omega) _).alloc (by simp; omega) _).alloc (by simp; omega) _
  have z0 : W0.heap.size = w.heap.size + 6 := by rw [← hW0]; simp [splW]
  rw [show (#[.int .u8 0, .int .u8 0, .int .u8 0, .int .u8 0] : Array Value) = zero4 from rfl, hW0]
  have HNo : Hid (adD s.data.toList = none → adDV s.data.toList = .tuple #[.agg zero4, .bool false]) := fun h => by unfold adDV; rw [h]
  clear hW0
  refine range_S (gf := 61) (lb := #[.pointer (some ⟨w.heap.size + 3 + 1, 0, none⟩), .pointer (some ⟨w.heap.size + 3, 0, none⟩), .pointer (some ⟨w.heap.size + 3 + 2, 0, none⟩)]) rfl (enters_of Tryd.func61 (by kernel_rfl) rfl)
    (D0 := fun _ => False) (D1 := three (w.heap.size + 3)) (fun k h => h.elim)
    (split1_seq (w.heap.size + 3) s.data.toList W0 b3 (by rw [← size_list]; exact hl)) (fun _ => rfl)
    (fun k hk => by unfold three at hk; omega)
    (fun pre x Wb W l r o h hl => h)
    (fun D pre W => W.heap[w.heap.size]? = some (.cells zero4 73 (0, 0)) ∧ ¬ D w.heap.size ∧ W.heap[w.heap.size + 1]? = some (.cells #[.bool false] 4 (0, 0)) ∧ ¬ D (w.heap.size + 1) ∧ MineS w.heap.size w D W ∧ (pre.all (fun x => (numF 255 x).isSome) = true ∧ pre.length ≤ 4) ∧ ∃ v, GathB w.heap.size (w.heap.size + 2) D (pre.map valD) v W)
    (fun c D pre W => c = .ret ∧ adD s.data.toList = none ∧ W.heap[w.heap.size]? = some (.cells zero4 73 (0, 0)) ∧ ¬ D w.heap.size ∧ W.heap[w.heap.size + 1]? = some (.cells #[.bool false] 4 (0, 0)) ∧ ¬ D (w.heap.size + 1) ∧ MineS w.heap.size w D W)
    (fun D D' s W W' h hk hD => ⟨hk.heap h.1 (fun hd => h.2.1 hd.1), keep_newq h.1 h.2.1 hD, hk.heap h.2.2.1 (fun hd => h.2.2.2.1 hd.1), keep_newq h.2.2.1 h.2.2.2.1 hD, h.2.2.2.2.1.stays hk hD, h.2.2.2.2.2.1, h.2.2.2.2.2.2.choose, h.2.2.2.2.2.2.choose_spec.stays hk hD⟩)
    (fun c D D' s W W' h hk hD => ⟨h.1, h.2.1, hk.heap h.2.2.1 (fun hd => h.2.2.2.1 hd.1), keep_newq h.2.2.1 h.2.2.2.1 hD, hk.heap h.2.2.2.2.1 (fun hd => h.2.2.2.2.2.1 hd.1), keep_newq h.2.2.2.2.1 h.2.2.2.2.2.1 hD, h.2.2.2.2.2.2.stays hk hD⟩)
    ⟨b0, (fun h => by unfold three at h; omega), b1, (fun h => by unfold three at h; omega), ⟨by omega, B0, fun k hk => by unfold three at hk; omega⟩, ⟨rfl, by simp⟩, .slice none 0 0, { box := b2, row := World.ownsRow_nil _ _ _ _, dB := fun h => by unfold three at h; omega, dv := fun k e => by simp [Value.ownBlock] at e, dl := fun k h => by unfold three at h; omega }⟩
    (fun x => { tmps := #[.string s, undef, .pointer (some ⟨w.heap.size, 0, none⟩), .pointer (some ⟨w.heap.size + 1, 0, none⟩), .pointer (some ⟨w.heap.size + 1 + 1, 0, none⟩), bytesV x, undef, undef, .string s, .func (.func 61) #[] #[.pointer (some ⟨w.heap.size + 3 + 1, 0, none⟩), .pointer (some ⟨w.heap.size + 3, 0, none⟩), .pointer (some ⟨w.heap.size + 3 + 2, 0, none⟩)], bytesV x, undef, undef, undef, undef, undef, undef, undef, undef, undef, undef, undef, undef, undef, undef, undef, undef, undef, undef, undef, undef, undef, undef, undef, undef, undef], defers := [] }) ?assign ?body ?done ?stop
  case assign =>
    intro l x W K hK
    simp only [fldEnc]
    gi_wp2
    exact hK
  case body =>
    rintro l D pre x Wb W hl' hrec hDl hsub ⟨hb0, nD0, hb1, nD1, hm, ⟨hall, hp4⟩, v, hG⟩ hk ⟨t, hst⟩
    have h0 : W.heap[w.heap.size]? = some (.cells zero4 73 (0, 0)) := hk.heap hb0 (fun hd => nD0 hd.1)
    have h1 : W.heap[w.heap.size + 1]? = some (.cells #[.bool false] 4 (0, 0)) := hk.heap hb1 (fun hd => nD1 hd.1)
    have hm2 := hm.stays hk (fun k hk' => .inl hk')
    have hG2 := hG.stays hk (fun k hk' => .inl hk')
    have hxl : x.length ≤ 4294967296 := by
      have := flds_le 46 _ s.data.toList x (Nat.le_refl _) (by rw [hst]; simp)
      rw [← size_list] at this
      omega
    obtain ⟨nm, hnm⟩ : ∃ nm : ByteArray, nm = ⟨x.toArray⟩ := ⟨_, rfl⟩
    have hnl : nm.data.toList = x := by rw [hnm]
    have hbv : bytesV x = .string nm := by rw [hnm]
    rw [hbv]
    have HN : Hid (∀ w1, Calls Tryd.prog 57 #[.string nm, .int .i64 255] w1 fun e w' => e = .returned (numDV 255 x) ∧ Below w1.heap.size w1 w') := fun w1 => by
      have := numD_any nm 255 (by rw [size_list, hnl]; exact hxl) (Nat.le_refl _) w1
      rw [hnl] at this
      exact this
    clear hnm hbv hb0 hb1 hm hG hk hsub hDl hrec b0 b1 b2 b3 B0
    have HSm : Hid (flds 46 s.data.toList = pre ++ x :: t) := hst
    clear hst
    have step : ∀ W1, Below W.heap.size W W1 → W1.heap[w.heap.size]? = some (.cells zero4 73 (0, 0)) ∧ W1.heap[w.heap.size + 1]? = some (.cells #[.bool false] 4 (0, 0)) ∧ Kept W W1 (fun k => ¬ D k) ∧ MineS w.heap.size w D W1 ∧ GathB w.heap.size (w.heap.size + 2) D (pre.map valD) v W1 := fun W1 hB1 => by
      have kk : Kept W W1 (fun k => D k ∧ ¬ D k) := kept_below' hB1 _
      have k0 : Kept W W1 (fun k => D k ∧ ¬ False) := kept_below' hB1 _
      exact ⟨kk.heap h0 (fun h => h.2 h.1), kk.heap h1 (fun h => h.2 h.1), kept_below' hB1 _, hm2.stays (D0 := fun _ => False) k0 (fun k h => .inl h), hG2.stays (D0 := fun _ => False) k0 (fun k h => .inl h)⟩
    have HStep : Hid _ := step
    clear step h0 h1 hm2
    have HNo2 : Hid (numF 255 x = none ∨ pre.length = 4 → ∀ W1, Below W.heap.size W W1 → Kept W (putA w.heap.size (.int .u8 0) (.int .u8 0) (.int .u8 0) (.int .u8 0) (.bool false) W1) (fun k => ¬ D k) ∧ Code.ret = Code.ret ∧ adD s.data.toList = none ∧ (putA w.heap.size (.int .u8 0) (.int .u8 0) (.int .u8 0) (.int .u8 0) (.bool false) W1).heap[w.heap.size]? = some (.cells zero4 73 (0, 0)) ∧ ¬ D w.heap.size ∧ (putA w.heap.size (.int .u8 0) (.int .u8 0) (.int .u8 0) (.int .u8 0) (.bool false) W1).heap[w.heap.size + 1]? = some (.cells #[.bool false] 4 (0, 0)) ∧ ¬ D (w.heap.size + 1) ∧ MineS w.heap.size w D (putA w.heap.size (.int .u8 0) (.int .u8 0) (.int .u8 0) (.int .u8 0) (.bool false) W1)) := by
      intro hx W1 hB1
      obtain ⟨q0, q1, q2, q3, _⟩ := HStep.out W1 hB1
      obtain ⟨p0, p1, p2⟩ := putA_at (a := .int .u8 0) (b := .int .u8 0) (c := .int .u8 0) (d := .int .u8 0) (r := .bool false) q0 q1
      refine ⟨q2.trans p2 (fun k _ h => ?_), rfl, adD_bad HSm.out hx, p0, nD0, p1, nD1, q3.1, q3.2.1.trans (p2.below q3.2.1.size (fun k h => ?_)), q3.2.2⟩
      · rcases h with rfl | rfl
        · exact nD0
        · exact nD1
      · rcases h with rfl | rfl <;> omega
    obtain ⟨ao, cp, rfl⟩ := row_shapeq hG2.row
    rw [List.length_map] at *
    cases hx : numF 255 x with
    | none =>
      have hV : numDV 255 x = .tuple #[.int .i64 0, .bool false] := by unfold numDV; rw [hx]
      rw [hV] at HN
      have HF := HNo2.out (.inl hx)
      have HFF : Hid _ := HF
      clear HF hG2 hx hV hnl
      gi_wp2_with fail
      refine ⟨trivial, rfl, (CallsIn.inRound l (callsIn_wide.2 (HN.out _))).mono ?_⟩
      rintro e W1 ⟨rfl, hB1⟩
      obtain ⟨q0, q1, _⟩ := HStep.out W1 hB1
      obtain ⟨⟨y0, y1, y2, y3⟩, f0, f1, f2, f3⟩ := cells4 q0
      have y4 : W1.cell? ⟨w.heap.size + 1, 0, none⟩ = some (.bool false) := cell_of_row W1 (w.heap.size + 1) 0 _ _ _ q1
      have f4 : W1.frozen? ⟨w.heap.size + 1, 0, none⟩ = false := frozen_of_row W1 (w.heap.size + 1) 0 _ _ q1
      have HFW := HFF.out W1 hB1
      have HFX : Hid _ := HFW
      clear q0 q1 HFW hB1
      gi_wp2
      exact ⟨HFX.out.1, rfl, HFX.out.2.2⟩
    | some m =>
      have hV : numDV 255 x = .tuple #[.int .i64 (m : Int), .bool true] := by unfold numDV; rw [hx]
      rw [hV] at HN
      have hm255 : m ≤ 255 := (numF_some hx).2.2.2.2
      by_cases h4 : pre.length = 4
      · have HF := HNo2.out (.inr h4)
        have HFF : Hid _ := HF
        have e4 : ((pre.length : Int) == 4) = true := by rw [h4]; rfl
        have hc1 : ∀ W1, Below W.heap.size W W1 → W1.cell? ⟨w.heap.size + 1 + 1, 0, none⟩ = some (.slice ao pre.length cp) := fun W1 hB1 => cell_of_row W1 (w.heap.size + 2) 0 _ _ _ (HStep.out W1 hB1).2.2.2.2.box
        clear HF hG2 hx hV hnl h4
        gi_wp2_with fail
        refine ⟨trivial, rfl, (CallsIn.inRound l (callsIn_wide.2 (HN.out _))).mono ?_⟩
        rintro e W1 ⟨rfl, hB1⟩
        obtain ⟨q0, q1, _⟩ := HStep.out W1 hB1
        obtain ⟨⟨y0, y1, y2, y3⟩, f0, f1, f2, f3⟩ := cells4 q0
        have y4 : W1.cell? ⟨w.heap.size + 1, 0, none⟩ = some (.bool false) := cell_of_row W1 (w.heap.size + 1) 0 _ _ _ q1
        have f4 : W1.frozen? ⟨w.heap.size + 1, 0, none⟩ = false := frozen_of_row W1 (w.heap.size + 1) 0 _ _ q1
        have y5 := hc1 W1 hB1
        have HFW := HFF.out W1 hB1
        have HFX : Hid _ := HFW
        clear q0 q1 HFW hB1 hc1
        gi_wp2
        exact ⟨HFX.out.1, rfl, HFX.out.2.2⟩
      · have e4 : ((pre.length : Int) == 4) = false := by rw [beq_eq_false_iff_ne]; omega
        have hlt4 : pre.length ≤ 3 := by omega
        have HAll : Hid ((pre ++ [x]).all (fun x => (numF 255 x).isSome) = true ∧ (pre ++ [x]).length ≤ 4) := ⟨by rw [List.all_append, hall]; simp [hx], by simp; omega⟩
        have HMv : Hid ((pre ++ [x]).map valD = pre.map valD ++ [m]) := by show _ = _; rw [List.map_append]; simp [(numF_some hx).2.2.2.1]
        clear hG2 hx hV hnl h4 hall
        gi_wp2_with fail
        refine ⟨trivial, rfl, (CallsIn.inRound l (callsIn_wide.2 (HN.out _))).mono ?_⟩
        rintro e W1 ⟨rfl, hB1⟩
        obtain ⟨q0, q1, q2, q3, G3⟩ := HStep.out W1 hB1
        obtain ⟨g1, c1, w1, e1, r1, r2, G5, K5⟩ := gathB_round G3 m (by rw [List.length_map]; omega) q3.2.1.size
        simp only [List.length_map] at e1 r1 r2 G5 K5
        have y5 : W1.cell? ⟨w.heap.size + 1 + 1, 0, none⟩ = some (.slice ao pre.length cp) := cell_of_row W1 (w.heap.size + 2) 0 _ _ _ G3.box
        have r1' : w1.cell? ⟨w.heap.size + 1 + 1, 0, none⟩ = some (.slice ao pre.length cp) := r1
        have r2' : w1.frozen? ⟨w.heap.size + 1 + 1, 0, none⟩ = false := r2
        have HS : Hid (Kept W (w1.setCell ⟨w.heap.size + 1 + 1, 0, none⟩ (.slice (some ⟨g1, 0, none⟩) (pre.length + 1) c1)) (fun k => ¬ D k) ∧ (w1.setCell ⟨w.heap.size + 1 + 1, 0, none⟩ (.slice (some ⟨g1, 0, none⟩) (pre.length + 1) c1)).heap[w.heap.size]? = some (.cells zero4 73 (0, 0)) ∧ ¬ D w.heap.size ∧ (w1.setCell ⟨w.heap.size + 1 + 1, 0, none⟩ (.slice (some ⟨g1, 0, none⟩) (pre.length + 1) c1)).heap[w.heap.size + 1]? = some (.cells #[.bool false] 4 (0, 0)) ∧ ¬ D (w.heap.size + 1) ∧ MineS w.heap.size w D (w1.setCell ⟨w.heap.size + 1 + 1, 0, none⟩ (.slice (some ⟨g1, 0, none⟩) (pre.length + 1) c1)) ∧ ((pre ++ [x]).all (fun x => (numF 255 x).isSome) = true ∧ (pre ++ [x]).length ≤ 4) ∧ ∃ v, GathB w.heap.size (w.heap.size + 2) D ((pre ++ [x]).map valD) v (w1.setCell ⟨w.heap.size + 1 + 1, 0, none⟩ (.slice (some ⟨g1, 0, none⟩) (pre.length + 1) c1))) := by
          refine ⟨q2.trans K5 (fun k _ h => ?_), K5.heap q0 (fun h => ?_), nD0, K5.heap q1 (fun h => ?_), nD1, ⟨q3.1, q3.2.1.trans (K5.below q3.2.1.size (fun k h => ?_)), q3.2.2⟩, HAll.out, _, by rw [HMv.out]; exact G5⟩
          · rcases h with rfl | h
            · exact G3.dB
            · exact G3.dv k h
          · rcases h with h | h
            · omega
            · obtain ⟨⟨cs, h1⟩, _⟩ := row_atq G3.row h
              exact ne_tyq h1 q0 (by decide) rfl
          · rcases h with h | h
            · omega
            · obtain ⟨⟨cs, h1⟩, _⟩ := row_atq G3.row h
              exact ne_tyq h1 q1 (by decide) rfl
          · rcases h with rfl | h
            · omega
            · exact (row_atq G3.row h).2.1
        have E1 : Hid _ := e1
        clear e1 r1 r2 G5 K5 q0 q1 q2 q3 G3 hB1
        gi_wp2_with (gi_at_builtin; refine wpListIn_append_run rfl _ _ 80 rfl rfl rfl E1.out ?_)
        exact HS.out
  case done =>
    rintro d D ys W hd _ hS ⟨hb0, nD0, hb1, nD1, hm, ⟨hall, hp4⟩, v, hG⟩ hK
    obtain ⟨ao, cp, rfl⟩ := row_shapeq hG.row
    obtain ⟨⟨y0, y1, y2, y3⟩, f0, f1, f2, f3⟩ := cells4 hb0
    have y4 : W.cell? ⟨w.heap.size + 1, 0, none⟩ = some (.bool false) := cell_of_row W (w.heap.size + 1) 0 _ _ _ hb1
    have f4 : W.frozen? ⟨w.heap.size + 1, 0, none⟩ = false := frozen_of_row W (w.heap.size + 1) 0 _ _ hb1
    have y5 : W.cell? ⟨w.heap.size + 1 + 1, 0, none⟩ = some (.slice ao (ys.map valD).length cp) := cell_of_row W (w.heap.size + 2) 0 _ _ _ hG.box
    have fin : ∀ (a b c e r : Value), Hid (Below w.heap.size w ((putA w.heap.size a b c e r W).putObj d (.deferred none)) ∧ (putA w.heap.size a b c e r W).heap[d]? = some (.deferred (some [])) ∧ ((putA w.heap.size a b c e r W).putObj d (.deferred none)).heap[w.heap.size]? = some (.cells #[a, b, c, e] 73 (0, 0)) ∧ ((putA w.heap.size a b c e r W).putObj d (.deferred none)).heap[w.heap.size + 1]? = some (.cells #[r] 4 (0, 0))) := by
      intro a b c e r
      obtain ⟨p0, p1, p2⟩ := putA_at (a := a) (b := b) (c := c) (d := e) (r := r) hb0 hb1
      refine ⟨?_, p2.heap hK (fun h => by omega), ?_, ?_⟩
      · exact (hm.2.1.trans (p2.below hm.2.1.size (fun k h => by omega))).trans ((kept_putObj _ d _).below (by have := hm.2.1.size; have := p2.size; omega) (fun k e => by omega))
      · rw [World.putObj_heap_other (by omega)]; exact p0
      · rw [World.putObj_heap_other (by omega)]; exact p1
    have hres : Tryd.f51.results = #[.cell 2 73, .cell 3 4] := by kernel_rfl
    have HRes : Hid _ := hres
    have ends : ∀ (a b c e r : Value) (tm : Array Value), tm.getD 2 undef = .pointer (some ⟨w.heap.size, 0, none⟩) → tm.getD 3 undef = .pointer (some ⟨w.heap.size + 1, 0, none⟩) → True := fun _ _ _ _ _ _ _ _ => trivial
    clear ends hres
    by_cases h4 : ys.length = 4
    · obtain ⟨g, c, hgv, hg1, hg2, hcell⟩ := row_cellq hG.row (by rw [List.length_map]; omega)
      simp only [Value.slice.injEq] at hgv
      obtain ⟨rfl, _, rfl⟩ := hgv
      match ys, h4 with
      | [x0, x1, x2, x3], _ =>
        have had : adD s.data.toList = some [valD x0, valD x1, valD x2, valD x3] := by
          unfold adD
          rw [← hS, if_pos ⟨rfl, hall⟩]
          rfl
        have HV : Hid (adDV s.data.toList = .tuple #[.agg #[u8V (valD x0), u8V (valD x1), u8V (valD x2), u8V (valD x3)], .bool true]) := by show _ = _; unfold adDV; rw [had]
        have c0 : W.cell? ⟨g, 0, none⟩ = some (u8V (valD x0)) := hcell 0 (by simp)
        have c1 : W.cell? ⟨g, 1, none⟩ = some (u8V (valD x1)) := hcell 1 (by simp)
        have c2 : W.cell? ⟨g, 2, none⟩ = some (u8V (valD x2)) := hcell 2 (by simp)
        have c3 : W.cell? ⟨g, 3, none⟩ = some (u8V (valD x3)) := hcell 3 (by simp)
        have HF := fin (u8V (valD x0)) (u8V (valD x1)) (u8V (valD x2)) (u8V (valD x3)) (.bool true)
        have hat : ∀ w, (Instr.arrayAt 73 (.slice (some ⟨g, 0, none⟩) 4 cp)).run Tryd.prog w = .ok (.pointer (some ⟨g, 0, none⟩)) w := fun w => run_arrayAt w 73 _ 4 _ 4 cp Tryd.underlying73 (by omega)
        simp only [List.map_cons, List.map_nil, List.length_cons, List.length_nil, Nat.reduceAdd] at y5
        generalize valD x0 = n0 at *
        generalize valD x1 = n1 at *
        generalize valD x2 = n2 at *
        generalize valD x3 = n3 at *
        clear fin hcell hb0 hb1 hm hall hG hS hK b0 b1 b2 b3 B0 had
        gi_wp2
        show bodyPostM _ _ _ _ _ .ret _ _
        refine ⟨by simp, .inl ⟨_, _, rfl, run_takeDeferred HF.out.2.1, ?_⟩⟩
        refine ⟨.tuple #[.agg #[u8V n0, u8V n1, u8V n2, u8V n3], .bool true], ?_, by rw [HV.out], HF.out.1⟩
        obtain ⟨⟨m0, m1, m2, m3⟩, _⟩ := cells4 HF.out.2.2.1
        have m4 := cell_of_row _ (w.heap.size + 1) 0 _ _ _ HF.out.2.2.2
        exact results_addr _ w.heap.size _ rfl rfl m0 m1 m2 m3 m4
    · have hno : adD s.data.toList = none := by
        unfold adD
        rw [← hS, if_neg (fun h => h4 h.1)]
      have HF := fin (.int .u8 0) (.int .u8 0) (.int .u8 0) (.int .u8 0) (.bool false)
      have e0 := HNo.out hno
      have HV : Hid (adDV s.data.toList = .tuple #[.agg zero4, .bool false]) := e0
      have hl4 : ys.length ≤ 3 := by omega
      rw [List.length_map] at y5
      clear fin hb0 hb1 hm hall hG hS hK b0 b1 b2 b3 B0 hno e0 h4
      gi_wp2
      show bodyPostM _ _ _ _ _ .ret _ _
      refine ⟨by simp, .inl ⟨_, _, rfl, run_takeDeferred HF.out.2.1, ?_⟩⟩
      refine ⟨.tuple #[.agg zero4, .bool false], ?_, by rw [HV.out], HF.out.1⟩
      obtain ⟨⟨m0, m1, m2, m3⟩, _⟩ := cells4 HF.out.2.2.1
      have m4 := cell_of_row _ (w.heap.size + 1) 0 _ _ _ HF.out.2.2.2
      exact results_addr _ w.heap.size _ rfl rfl m0 m1 m2 m3 m4
  case stop =>
    rintro d D c pre W hd _ _ ⟨rfl, hno, hb0, nD0, hb1, nD1, hm⟩ hK
    have e0 := HNo.out hno
    have yb0 : (W.putObj d (.deferred none)).heap[w.heap.size]? = some (.cells zero4 73 (0, 0)) := by rw [World.putObj_heap_other (by omega)]; exact hb0
    have yb1 : (W.putObj d (.deferred none)).heap[w.heap.size + 1]? = some (.cells #[.bool false] 4 (0, 0)) := by rw [World.putObj_heap_other (by omega)]; exact hb1
    have y0 : ∀ i (hi : i < 4), (W.putObj d (.deferred none)).cell? ⟨w.heap.size, i, none⟩ = some (.int .u8 0) := fun i hi => by
      have := cell_of_row _ w.heap.size i _ _ _ yb0
      rw [this]
      match i, hi with
      | 0, _ => rfl
      | 1, _ => rfl
      | 2, _ => rfl
      | 3, _ => rfl
    have y1 : (W.putObj d (.deferred none)).cell? ⟨w.heap.size + 1, 0, none⟩ = some (.bool false) := cell_of_row _ (w.heap.size + 1) 0 _ _ _ yb1
    have HE : Hid (adDV s.data.toList = .tuple #[.agg zero4, .bool false] ∧ Below w.heap.size w (W.putObj d (.deferred none))) := ⟨e0, hm.2.1.trans ((kept_putObj W d _).below hm.2.1.size (fun k e => by subst e; omega))⟩
    clear hb0 hb1 hm b0 b1 b2 b3 B0
    gi_wp2
    show bodyPostM _ _ _ _ _ .ret _ _
    refine ⟨by simp, .inl ⟨_, _, rfl, run_takeDeferred hK, ?_⟩⟩
    refine ⟨.tuple #[.agg zero4, .bool false], ?_, by rw [HE.out.1], HE.out.2⟩
    have hres : Tryd.f51.results = #[.cell 2 73, .cell 3 4] := by kernel_rfl
    simp only [results, hres]
    have y00 := y0 0 (by omega)
    have y01 := y0 1 (by omega)
    have y02 := y0 2 (by omega)
    have y03 := y0 3 (by omega)
    go_simp

end Go.Proofs.YtapnaknbidmnmaaDoor
