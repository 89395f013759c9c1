/- The walk of CacheAll. -/
import Derived.Test.YtcbbclniginciaaCaI
import Derived.Test.YtcbbclniginciaaCaC
import Derived.Sort.CutIn
namespace Go.Proofs.Ytcbbclniginciaa
open Go.RowKit Go.Shelf
set_option maxRecDepth 8000
attribute [local go_sem] Oper.semAt_some

/-- Blocks that hold what they hold, and none is the iterator's. -/
def Holds (G : List (Nat × Obj)) (D : Blocks) (W : World) : Prop := ∀ b o, (b, o) ∈ G → W.heap[b]? = some o ∧ ¬ D b

/-- What a range over a function finds: its caller's blocks, all that was there ahead. -/
structure RL (w0 : World) (G : List (Nat × Obj)) (D : Blocks) (W : World) : Prop where
  holds : Holds G D W
  bel : Below w0.heap.size w0 W
  dB : ∀ k, D k → w0.heap.size ≤ k

theorem RL.stays {w0 : World} {G : List (Nat × Obj)} {D0 D D' : Blocks} {W W' : World} (h : RL w0 G D W) (hk : Kept W W' (fun k => D k ∧ ¬ D0 k)) (hD : ∀ k, D' k → D k ∨ (W.heap.size ≤ k ∧ k < W'.heap.size)) : RL w0 G D' W' := by
  refine ⟨fun b o hb => ?_, h.bel.trans (hk.below h.bel.size (fun k hk' => h.dB k hk'.1)), fun k hk' => ?_⟩
  · obtain ⟨h1, h2⟩ := h.holds b o hb
    refine ⟨hk.heap h1 (fun hd => h2 hd.1), fun h' => ?_⟩
    rcases hD b h' with h' | h'
    · exact h2 h'
    · have := lt_of_block h1; omega
  · rcases hD k hk' with h' | h'
    · exact h.dB k h'
    · have := h.bel.size; omega

/-- The ring, the two boxes. -/
structure StA (w0 w : World) (p m : Nat) (lv : Int) (xs : List Value) : Prop where
  rg : IsRg 72 w p m xs
  c8 : w.heap[w0.heap.size]? = some (.cells #[.int .i64 lv] 3 (0, 0))
  c10 : w.heap[w0.heap.size + 1]? = some (.cells #[.bool false] 4 (0, 0))
  bel : Below w0.heap.size w0 w
  hp : w0.heap.size + 2 ≤ p

theorem StA.put {w0 w w' : World} {p m : Nat} {lv : Int} {xs xs' : List Value} (h : StA w0 w p m lv xs) (hr : IsRg 72 w' p m xs') (hk : Kept w w' (· = p)) : StA w0 w' p m lv xs' := by
  have := h.hp
  exact ⟨hr, hk.heap h.c8 (by omega), hk.heap h.c10 (by omega), h.bel.trans (hk.below h.bel.size (fun k e => by omega)), h.hp⟩

theorem StA.later {w0 w w' : World} {p m : Nat} {lv : Int} {xs : List Value} (h : StA w0 w p m lv xs) (hb : Below w.heap.size w w') : StA w0 w' p m lv xs :=
  ⟨h.rg.below hb h.rg.lt, (hb.block _ (lt_of_block h.c8)).trans h.c8, (hb.block _ (lt_of_block h.c10)).trans h.c10, h.bel.trans (hb.mono h.bel.size), h.hp⟩

/-- The ring, whatever it has; what was taken of it; the list that is wanted. -/
structure StB (w0 w : World) (p m pt b15 : Nat) (lv : Int) (wv : Value) (ys : List Int) : Prop where
  st : ∃ xs, StA w0 w p m lv xs
  tk : IsRg 72 w pt m (ys.map (Value.int .i64))
  c15 : w.heap[b15]? = some (.cells #[wv] 32 (0, 0))
  ne : pt ≠ p
  ne15 : b15 ≠ p
  bt : w0.heap.size + 2 ≤ pt
  b15B : w0.heap.size + 2 ≤ b15

theorem StB.put {w0 w w' : World} {p m pt b15 : Nat} {lv : Int} {wv : Value} {ys : List Int} (h : StB w0 w p m pt b15 lv wv ys) {xs' : List Value} (hr : IsRg 72 w' p m xs') (hk : Kept w w' (· = p)) : StB w0 w' p m pt b15 lv wv ys := by
  obtain ⟨xs, hst⟩ := h.st
  exact ⟨⟨xs', hst.put hr hk⟩, h.tk.kept hk h.ne, hk.heap h.c15 h.ne15, h.ne, h.ne15, h.bt, h.b15B⟩

/-- What the caller holds while it ranges: the bound to leave at, the answer, the list that is wanted. -/
def GA (w0 : World) (b15 : Nat) (lv : Int) (wv : Value) : List (Nat × Obj) :=
  [(w0.heap.size, .cells #[.int .i64 lv] 3 (0, 0)), (w0.heap.size + 1, .cells #[.bool false] 4 (0, 0)), (b15, .cells #[wv] 32 (0, 0))]

/-- The counter's box and what was taken, beside the caller's. -/
structure LpA (w0 : World) (pt m b15 bn : Nat) (lv : Int) (wv : Value) (ys : List Int) (D : Blocks) (k : Nat) (W : World) : Prop where
  rl : RL w0 (GA w0 b15 lv wv) D W
  box : W.heap[bn]? = some (.cells #[.int .i64 k] 3 (0, 0))
  nD : ¬ D bn
  tk : IsRg 72 W pt m (ys.map (Value.int .i64))
  le : k ≤ ys.length
  bnB : w0.heap.size + 2 ≤ bn
  ptB : w0.heap.size + 2 ≤ pt

theorem LpA.stays {w0 : World} {pt m b15 bn k : Nat} {lv : Int} {wv : Value} {ys : List Int} {D D' : Blocks} {W W' : World} (h : LpA w0 pt m b15 bn lv wv ys D k W) (hk : Kept W W' (fun j => D j ∧ ¬ j = pt)) (hD : ∀ j, D' j → D j ∨ (W.heap.size ≤ j ∧ j < W'.heap.size)) : LpA w0 pt m b15 bn lv wv ys D' k W' := by
  refine ⟨h.rl.stays hk hD, hk.heap h.box (fun e => h.nD e.1), fun e => ?_, h.tk.kept hk (fun e => e.2 rfl), h.le, h.bnB, h.ptB⟩
  rcases hD bn e with e | e
  · exact h.nD e
  · have := lt_of_block h.box; omega

/-- The counter goes up. -/
theorem LpA.up {w0 : World} {pt m b15 bn k : Nat} {lv : Int} {wv : Value} {ys : List Int} {D : Blocks} {W : World} (h : LpA w0 pt m b15 bn lv wv ys D k W) (hlt : k < ys.length) (hpt : D pt) (h15 : b15 ≠ bn) :
    Kept W (W.setCell ⟨bn, 0, none⟩ (.int .i64 ((k : Int) + 1))) (fun j => ¬ D j) ∧ LpA w0 pt m b15 bn lv wv ys D (k + 1) (W.setCell ⟨bn, 0, none⟩ (.int .i64 ((k : Int) + 1))) := by
  have hb := h.bnB
  have hk : Kept W (W.setCell ⟨bn, 0, none⟩ (.int .i64 ((k : Int) + 1))) (fun j => j = bn) := (Kept.refl _ _).setCell _ _ (fun _ => rfl)
  refine ⟨hk.mono (fun j _ e => by rw [e]; exact h.nD), ⟨⟨fun b o hbo => ?_, h.rl.bel.trans (hk.below h.rl.bel.size (fun j e => by omega)), h.rl.dB⟩, one_setCell h.box, h.nD, h.tk.kept hk (fun e => by rw [e] at hpt; exact h.nD hpt), hlt, h.bnB, h.ptB⟩⟩
  obtain ⟨h1, h2⟩ := h.rl.holds b o hbo
  refine ⟨hk.heap h1 (fun e => ?_), h2⟩
  simp only [GA, List.mem_cons, Prod.mk.injEq, List.not_mem_nil, or_false] at hbo
  rcases hbo with ⟨rfl, _⟩ | ⟨rfl, _⟩ | ⟨rfl, _⟩
  · omega
  · omega
  · exact h15 e

theorem LpA.cells {w0 : World} {pt m b15 bn k : Nat} {lv : Int} {a' : Option Addr} {c' : Nat} {ys : List Int} {D : Blocks} {W : World} (h : LpA w0 pt m b15 bn lv (.slice a' ys.length c') ys D k W) (hs : SeesI w0 (.slice a' ys.length c') ys) :
    W.cell? ⟨w0.heap.size, 0, none⟩ = some (.int .i64 lv) ∧ W.cell? ⟨b15, 0, none⟩ = some (.slice a' ys.length c') ∧ W.cell? ⟨bn, 0, none⟩ = some (.int .i64 k) ∧ W.frozen? ⟨bn, 0, none⟩ = false ∧ (k < ys.length → ∃ b off, a' = some ⟨b, off, none⟩ ∧ W.cell? ⟨b, off + k, none⟩ = some (.int .i64 (ys[k]?.getD 0))) ∧ ys.length ≤ c' := by
  have g0 := (h.rl.holds _ _ (List.mem_cons_self ..)).1
  have g2 := (h.rl.holds b15 (.cells #[.slice a' ys.length c'] 32 (0, 0)) (by simp [GA])).1
  obtain ⟨a2, c2, e2, hc1, hc2, h3⟩ := hs
  cases e2
  refine ⟨cell_of_row W _ 0 _ _ _ g0, cell_of_row W _ 0 _ _ _ g2, cell_of_row W _ 0 _ _ _ h.box, frozen_of_row W _ 0 _ _ h.box, fun hlt => ?_, hc1⟩
  rcases h3 with h3 | ⟨b, off, rfl, h3⟩
  · subst h3; simp at hlt
  · refine ⟨b, off, rfl, ?_⟩
    rw [cell_later (h3 k hlt) h.rl.bel (Nat.le_refl _)]
    simp [hlt]

/-- A second loop over what was taken. -/
theorem LpA.next {w0 : World} {pt m b15 bn k : Nat} {lv : Int} {wv : Value} {ys : List Int} {D : Blocks} {W : World} (h : LpA w0 pt m b15 bn lv wv ys D k W) :
    LpA w0 pt m b15 W.heap.size lv wv ys (fun j => j = pt) 0 (W.alloc (.cells #[.int .i64 0] 3)) ∧ b15 ≠ W.heap.size := by
  have hl := lt_of_block h.box
  have hb := h.bnB
  have hpt := h.tk.lt
  have hpB := h.ptB
  have g15 := (h.rl.holds b15 (.cells #[wv] 32 (0, 0)) (by simp [GA])).1
  have l15 := lt_of_block g15
  refine ⟨⟨⟨fun b o hbo => ?_, h.rl.bel.alloc h.rl.bel.size _, fun j e => by omega⟩, heap_alloc_new _ _, by omega, h.tk.below ((Below.refl _ _).alloc (Nat.le_refl _) _) hpt, Nat.zero_le _, by omega, hpB⟩, by omega⟩
  have g := (h.rl.holds b o hbo).1
  refine ⟨(Below.heap_alloc _ _ _ (lt_of_block g)).trans g, fun e => ?_⟩
  obtain ⟨_, _, ⟨c, hc, _⟩, _⟩ := h.tk
  rw [e, hc] at g
  simp only [GA, List.mem_cons, Prod.mk.injEq, List.not_mem_nil, or_false] at hbo
  rcases hbo with ⟨rfl, rfl⟩ | ⟨rfl, rfl⟩ | ⟨rfl, rfl⟩ <;> simp at g

theorem numsI_next (n : Nat) (l : List Int) (k : Nat) (hk : k < l.length) : lastN n (lastN n ((l.take k).map (Value.int .i64)) ++ [.int .i64 l[k]]) = lastN n ((l.take (k + 1)).map (Value.int .i64)) := by
  rw [lastN_snoc, take_snoc l k hk, List.map_append]
  rfl

set_option maxHeartbeats 4000000 in
theorem allA_walk (most : Int) (va : Value) (l : List Int) (vb : Value) (more : List Int) (lv : Int) (cl : Bool) (w : World) (ha : SeesI w va l) (hl : l.length ≤ 140737488355328) (hb : SeesI w vb more) (hl2 : more.length ≤ 140737488355328) (_hm : -9223372036854775808 ≤ most ∧ most ≤ 9223372036854775807) (_hlv : -9223372036854775808 ≤ lv ∧ lv ≤ 9223372036854775807) :
    Calls Try.prog 5 #[.int .i64 most, va, vb, .int .i64 lv, .bool cl] w fun e w' => e = .returned (.bool true) ∧ Below w.heap.size w w' := by
  obtain ⟨aa, ca, rfl, hca, hca2, h3a⟩ := ha
  obtain ⟨ab, cb, rfl, hcb, hcb2, h3b⟩ := hb
  unfold maxLen at hca2 hcb2
  have H3a : Hid _ := h3a
  have H3b : Hid _ := h3b
  clear h3a h3b
  refine (callsIn_wide (n := 0)).1 ?_
  refine callsIn_of_wp_marks Try.func5 rfl trivial ?_ rfl
  simp only [Try.ntmps5, List.size_toArray, List.length_cons, List.length_nil, Nat.reduceAdd, Nat.reduceSub, Array.replicate_succ, Array.replicate_zero, List.push_toArray, List.append_toArray, List.nil_append, List.cons_append]
  gi_wp2_with fail
  refine ⟨trivial, rfl, (callsIn_wide.2 (caWorks_any _)).mono ?_⟩
  rintro e w1 ⟨rfl, hb1⟩
  have H1 : Hid (w1.heap[w.heap.size]? = some (.cells #[.int .i64 lv] 3 (0, 0)) ∧ w1.heap[w.heap.size + 1]? = some (.cells #[.bool false] 4 (0, 0)) ∧ Below w.heap.size w w1 ∧ w.heap.size + 2 ≤ w1.heap.size) := by
    refine ⟨?_, ?_, ?_, by have := hb1.size; simpa using this⟩
    · rw [hb1.block _ (by simp; omega), Below.heap_alloc _ _ _ (by simp)]; exact heap_alloc_new _ _
    · rw [hb1.block _ (by simp)]
      have := heap_alloc_new (w.alloc (.cells #[.int .i64 lv] 3)) (.cells #[.bool false] 4)
      simpa using this
    · exact (((Below.refl _ w).alloc (Nat.le_refl _) _).alloc (by simp) _).trans (hb1.mono (by simp; omega))
  clear hb1
  by_cases hlong : 4194304 < (l.length : Int) + more.length
  · have hc : w1.cell? ⟨w.heap.size + 1, 0, none⟩ = some (.bool false) := cell_of_row w1 _ 0 _ _ _ H1.out.2.1
    have hfz : w1.frozen? ⟨w.heap.size + 1, 0, none⟩ = false := frozen_of_row w1 _ 0 _ _ H1.out.2.1
    have yb : (w1.setCell ⟨w.heap.size + 1, 0, none⟩ (.bool true)).heap[w.heap.size + 1]? = some (.cells #[.bool true] 4 (0, 0)) := one_setCell H1.out.2.1
    have y0 : (w1.setCell ⟨w.heap.size + 1, 0, none⟩ (.bool true)).cell? ⟨w.heap.size + 1, 0, none⟩ = some (.bool true) := cell_of_row _ _ 0 _ _ _ yb
    have HE : Hid (Below w.heap.size w (w1.setCell ⟨w.heap.size + 1, 0, none⟩ (.bool true))) := H1.out.2.2.1.setCell (p := ⟨w.heap.size + 1, 0, none⟩) (by show w.heap.size ≤ w.heap.size + 1; omega) _
    clear yb
    gi_wp2_with fail
    show LeavesInM _ _ _ _ _ _ [] .returning _
    refine ⟨.bool true, ?_, rfl, HE.out⟩
    have hres : Try.f5.results = #[.cell 10 4] := by kernel_rfl
    simp only [results, hres]
    generalize (w1.setCell ⟨w.heap.size + 1, 0, none⟩ (.bool true)) = wz at *
    go_simp
  · by_cases hno : most < 0 ∨ 64 < most
    · have hc : w1.cell? ⟨w.heap.size + 1, 0, none⟩ = some (.bool false) := cell_of_row w1 _ 0 _ _ _ H1.out.2.1
      have hfz : w1.frozen? ⟨w.heap.size + 1, 0, none⟩ = false := frozen_of_row w1 _ 0 _ _ H1.out.2.1
      have yb : (w1.setCell ⟨w.heap.size + 1, 0, none⟩ (.bool true)).heap[w.heap.size + 1]? = some (.cells #[.bool true] 4 (0, 0)) := one_setCell H1.out.2.1
      have y0 : (w1.setCell ⟨w.heap.size + 1, 0, none⟩ (.bool true)).cell? ⟨w.heap.size + 1, 0, none⟩ = some (.bool true) := cell_of_row _ _ 0 _ _ _ yb
      have HE : Hid (Below w.heap.size w (w1.setCell ⟨w.heap.size + 1, 0, none⟩ (.bool true))) := H1.out.2.2.1.setCell (p := ⟨w.heap.size + 1, 0, none⟩) (by show w.heap.size ≤ w.heap.size + 1; omega) _
      clear yb
      have hno2 : (decide (most < 0) || decide (64 < most)) = true := by simp; omega
      gi_wp2_with fail
      refine ⟨trivial, rfl, (callsIn_wide.2 (newI_no most w1 hno)).mono ?_⟩
      rintro e w2 ⟨rfl, rfl⟩
      by_cases hneg : most < 0
      · gi_wp2_with fail
        show LeavesInM _ _ _ _ _ _ [] .returning _
        refine ⟨.bool true, ?_, rfl, HE.out⟩
        have hres : Try.f5.results = #[.cell 10 4] := by kernel_rfl
        simp only [results, hres]
        generalize (w2.setCell ⟨w.heap.size + 1, 0, none⟩ (.bool true)) = wz at *
        go_simp
      · have hbig : 64 < most := by omega
        gi_wp2_with fail
        show LeavesInM _ _ _ _ _ _ [] .returning _
        refine ⟨.bool true, ?_, rfl, HE.out⟩
        have hres : Try.f5.results = #[.cell 10 4] := by kernel_rfl
        simp only [results, hres]
        generalize (w2.setCell ⟨w.heap.size + 1, 0, none⟩ (.bool true)) = wz at *
        go_simp
    · obtain ⟨n, rfl⟩ : ∃ n : Nat, most = n := ⟨most.toNat, by omega⟩
      have hn : n ≤ 64 := by omega
      gi_wp2_with fail
      refine ⟨trivial, rfl, (callsIn_wide.2 (newI_yes n w1 hn)).mono ?_⟩
      rintro e w2 ⟨rfl, hr2, hb2⟩
      have H2 : Hid (StA w w2 w1.heap.size n lv []) := ⟨hr2, (hb2.block _ (lt_of_block H1.out.1)).trans H1.out.1, (hb2.block _ (lt_of_block H1.out.2.1)).trans H1.out.2.1, H1.out.2.2.1.trans (hb2.mono H1.out.2.2.1.size), H1.out.2.2.2⟩
      generalize w1.heap.size = p at *
      clear hr2 hb2 H1 hno
      gi_wp2_with fail
      gi_loopw [14] (fun vi wr => ∃ k : Nat, k ≤ l.length ∧ vi = .int .i64 k ∧ Hid (StA w wr p n lv (lastN n ((l.take k).map (Value.int .i64))))) (fun vi _ => l.length - (intOf vi).toNat)
      case atStart => exact ⟨0, Nat.zero_le _, rfl, (by show StA w w2 p n lv _; simpa [lastN] using H2.out)⟩
      case round =>
        clear H2
        obtain ⟨k, hk, rfl, HR⟩ := hrel
        by_cases hlt : k < l.length
        · rcases H3a.out with h3 | ⟨b, off, rfl, h3⟩
          · subst h3; simp at hlt
          · have hc := cell_later (h3 k hlt) HR.out.bel (Nat.le_refl _)
            clear h3
            gi_wp2_with fail
            refine ⟨trivial, rfl, (callsIn_wide.2 (putI_any HR.out.rg l[k])).mono ?_⟩
            rintro e w3 ⟨rfl, hr3, hk3⟩
            have H3 : Hid (StA w w3 p n lv (lastN n ((l.take (k + 1)).map (Value.int .i64)))) := by
              rw [numsI_next n l k hlt] at hr3
              exact HR.out.put hr3 hk3
            clear hr3 hk3 HR hc
            gi_wp2_with fail
            go_roundw
            case rel => exact ⟨k + 1, by omega, by go_num, H3⟩
            case measure => simp [intOf]; omega
        · obtain rfl : k = l.length := by omega
          rw [List.take_length] at HR
          obtain ⟨ys, hys⟩ : ∃ ys, ys = lastN n l := ⟨_, rfl⟩
          have hyx : lastN n (l.map (Value.int .i64)) = ys.map (Value.int .i64) := by rw [hys]; simp [lastN]
          rw [hyx] at HR
          have hyl : ys.length ≤ 64 := by rw [hys, lastN_length]; omega
          have hc15 := heap_alloc_new wr (.cells #[.slice aa l.length ca] 32)
          have hcc15 : (wr.alloc (.cells #[.slice aa l.length ca] 32)).cell? ⟨wr.heap.size, 0, none⟩ = some (.slice aa l.length ca) := cell_of_row _ _ 0 _ _ _ hc15
          have hcf15 : (wr.alloc (.cells #[.slice aa l.length ca] 32)).frozen? ⟨wr.heap.size, 0, none⟩ = false := frozen_of_row _ _ 0 _ _ hc15
          have HS5 : Hid (StA w (wr.alloc (.cells #[.slice aa l.length ca] 32)) p n lv (ys.map (Value.int .i64))) := HR.out.later ((Below.refl _ _).alloc (Nat.le_refl _) _)
          have HY : Hid (ys = lastN n l) := hys
          have HW : Hid (w.heap.size + 2 ≤ wr.heap.size) := by have := HR.out.rg.lt; have := HR.out.hp; show _ ≤ _; omega
          clear hys hyx hk hlt
          gi_upto_if 72 with fail
          gi_cut [1] from 24 (fun _ wc => ∃ a' c', Hid (wc.heap[wr.heap.size]? = some (.cells #[.slice a' ys.length c'] 32 (0, 0)) ∧ StA w wc p n lv (ys.map (Value.int .i64)) ∧ SeesI w (.slice a' ys.length c') ys))
          case first =>
            by_cases hgt : (n : Int) < l.length
            · obtain ⟨b, off, rfl, h3⟩ : ∃ b off, aa = some ⟨b, off, none⟩ ∧ ∀ (i : Nat) (h : i < l.length), w.cell? ⟨b, off + i, none⟩ = some (.int .i64 l[i]) := by
                rcases H3a.out with h3 | h3
                · subst h3; simp at hgt; omega
                · exact h3
              have e1 : (l.length : Int) - n = ((l.length - n : Nat) : Int) := by omega
              have hq : Hid (ys.length = n) := by show _ = _; rw [HY.out, lastN_length]; omega
              have HSee : Hid (SeesI w (.slice (if ca = l.length - n then some ⟨b, off, none⟩ else some ⟨b, off + (l.length - n), none⟩) ys.length (ca - (l.length - n))) ys) := by
                refine ⟨_, _, rfl, by have := hq.out; omega, by unfold maxLen; omega, ?_⟩
                by_cases hcc : ca = l.length - n
                · exact .inl (List.eq_nil_of_length_eq_zero (by have := hq.out; omega))
                · rw [if_neg hcc]
                  refine .inr ⟨b, off + (l.length - n), rfl, fun i hi => ?_⟩
                  have hi' : l.length - n + i < l.length := by have := hq.out; omega
                  have := h3 _ hi'
                  rw [← Nat.add_assoc] at this
                  rw [this]
                  congr 2
                  have e9 : ys[i]? = (lastN n l)[i]? := by rw [HY.out]
                  rw [lastN_getElem?, List.getElem?_eq_getElem hi, List.getElem?_eq_getElem hi'] at e9
                  exact (Option.some.inj e9).symm
              clear h3
              have HQ : Hid (l.length - (l.length - n) = ys.length) := by have := hq.out; show _ = _; omega
              have HAl : Hid (∀ a' c', (wr.alloc (.cells #[.slice a' (l.length - (l.length - n)) c'] 32)).heap[wr.heap.size]? = some (.cells #[.slice a' ys.length c'] 32 (0, 0)) ∧ StA w (wr.alloc (.cells #[.slice a' (l.length - (l.length - n)) c'] 32)) p n lv (ys.map (Value.int .i64))) := fun a' c' => by
                rw [HQ.out]
                exact ⟨heap_alloc_new _ _, HR.out.later ((Below.refl _ _).alloc (Nat.le_refl _) _)⟩
              clear hc15 hcc15 hcf15 HS5
              gi_wp2_with fail
              · rename_i hcc
                have hsee := HSee.out
                rw [if_pos (by omega), show ca - (l.length - n) = 0 by omega] at hsee
                gi_meet
                case rel => exact ⟨_, _, (HAl.out _ _).1, (HAl.out _ _).2, hsee⟩
              · have hsee := HSee.out
                rw [if_neg (by assumption)] at hsee
                gi_meet
                case rel => exact ⟨_, _, (HAl.out _ _).1, (HAl.out _ _).2, hsee⟩
            · have hle : l.length ≤ n := by omega
              have HSee : Hid (SeesI w (.slice aa ys.length ca) ys ∧ ys.length = l.length) := by
                have e9 : ys = l := by rw [HY.out, lastN_short hle]
                rw [e9]
                exact ⟨⟨aa, ca, rfl, hca, by unfold maxLen; exact hca2, H3a.out⟩, rfl⟩
              gi_wp2_with fail
              gi_meet
              case rel => exact ⟨aa, ca, by rw [HSee.out.2]; exact hc15, HS5.out, HSee.out.1⟩
          case rest =>
            clear HR HS5 hc15 hcc15 hcf15 H3a
            obtain ⟨a', c', HC⟩ := hcut
            generalize wr.heap.size = b15 at *
            have HB15 : Hid (w.heap.size + 2 ≤ b15 ∧ wc.heap[b15]? = some (.cells #[.slice a' ys.length c'] 32 (0, 0))) := ⟨HW.out, HC.out.1⟩
            have HSee : Hid (SeesI w (.slice a' ys.length c') ys) := HC.out.2.2
            have HST : Hid (StA w wc p n lv (ys.map (Value.int .i64))) := HC.out.2.1
            clear HC HW HY
            gi_wp2_with fail
            refine ⟨trivial, rfl, (callsIn_wide.2 (allI_any HST.out.rg)).mono ?_⟩
            rintro e w3 ⟨rfl, hr3, hb3⟩
            have HB : Hid (StB w w3 p n wc.heap.size b15 lv (.slice a' ys.length c') ys) := by
              have l1 := HST.out.rg.lt
              have l2 := HST.out.hp
              have l3 := lt_of_block HB15.out.2
              refine ⟨⟨_, HST.out.later hb3⟩, hr3, (hb3.block _ l3).trans HB15.out.2, by omega, ?_, by omega, HB15.out.1⟩
              obtain ⟨c, hc⟩ : ∃ c, wc.heap[p]? = some (.cells c 72 (0, 0)) := by
                obtain ⟨_, _, ⟨c, h, _⟩, _⟩ := HST.out.rg
                exact ⟨c, h⟩
              intro e
              rw [e] at HB15
              have := HB15.out.2
              rw [hc] at this
              simp at this
            generalize wc.heap.size = pt at *
            clear hr3 hb3 HST HB15
            gi_upto_if 81 with fail
            gi_cut [4] from 24 (fun _ wd => Hid (StB w wd p n pt b15 lv (.slice a' ys.length c') ys))
            case first =>
              cases cl with
              | false =>
                gi_wp2_with fail
                gi_meet
                case rel => exact HB
              | true =>
                gi_wp2_with fail
                obtain ⟨xs, hst⟩ := HB.out.st
                refine ⟨trivial, rfl, (callsIn_wide.2 (clearI_any hst.rg)).mono ?_⟩
                rintro e w4 ⟨rfl, hr4, hk4⟩
                have HB4 : Hid _ := HB.out.put hr4 hk4
                clear hr4 hk4 hst HB
                gi_wp2_with fail
                gi_meet
                case rel => exact HB4
            case rest =>
              clear HB
              have HB : Hid _ := hcut.out
              clear hcut
              gi_wp2_with fail
              gi_loopw [17] (fun vi wr => ∃ k : Nat, k ≤ more.length ∧ vi = .int .i64 k ∧ Hid (StB w wr p n pt b15 lv (.slice a' ys.length c') ys)) (fun vi _ => more.length - (intOf vi).toNat)
              case atStart => exact ⟨0, Nat.zero_le _, rfl, HB⟩
              case round =>
                clear HB
                obtain ⟨k, hk, rfl, HB⟩ := hrel
                by_cases hlt : k < more.length
                · rcases H3b.out with h3 | ⟨b, off, rfl, h3⟩
                  · subst h3; simp at hlt
                  · obtain ⟨xs, hst⟩ := HB.out.st
                    have hc := cell_later (h3 k hlt) hst.bel (Nat.le_refl _)
                    have HP : Hid _ := putI_any hst.rg more[k]
                    clear h3 hst
                    gi_wp2_with fail
                    refine ⟨trivial, rfl, (callsIn_wide.2 HP.out).mono ?_⟩
                    rintro e w3 ⟨rfl, hr3, hk3⟩
                    have HB4 : Hid _ := HB.out.put hr3 hk3
                    clear hr3 hk3 HB hc HP
                    gi_wp2_with fail
                    go_roundw
                    case rel => exact ⟨k + 1, by omega, by go_num, HB4⟩
                    case measure => simp [intOf]; omega
                · obtain rfl : k = more.length := by omega
                  clear H3b hk hlt
                  have hL0 : LpA w pt n b15 wr.heap.size lv (.slice a' ys.length c') ys (fun k => k = pt) 0 (wr.alloc (.cells #[.int .i64 0] 3)) := by
                    obtain ⟨xs, hst⟩ := HB.out.st
                    have h8 := lt_of_block hst.c8
                    have h10 := lt_of_block hst.c10
                    have h15 := lt_of_block HB.out.c15
                    have hpt := HB.out.tk.lt
                    have hb15 := HB.out.b15B
                    have hbt := HB.out.bt
                    refine ⟨⟨fun b o hbo => ?_, hst.bel.alloc hst.bel.size _, fun k e => by omega⟩, heap_alloc_new _ _, by omega, HB.out.tk.below ((Below.refl _ _).alloc (Nat.le_refl _) _) hpt, Nat.zero_le _, by omega, hbt⟩
                    simp only [GA, List.mem_cons, Prod.mk.injEq, List.not_mem_nil, or_false] at hbo
                    rcases hbo with ⟨rfl, rfl⟩ | ⟨rfl, rfl⟩ | ⟨rfl, rfl⟩
                    · exact ⟨(Below.heap_alloc _ _ _ h8).trans hst.c8, by omega⟩
                    · exact ⟨(Below.heap_alloc _ _ _ h10).trans hst.c10, by omega⟩
                    · refine ⟨(Below.heap_alloc _ _ _ h15).trans HB.out.c15, fun e => ?_⟩
                      obtain ⟨_, _, ⟨c, hc, _⟩, _⟩ := HB.out.tk
                      have := HB.out.c15
                      rw [e, hc] at this
                      simp at this
                  have h15n : b15 ≠ wr.heap.size := by have := lt_of_block HB.out.c15; omega
                  have HL0 : Hid _ := hL0
                  clear hL0 HB
                  gi_wp2_with fail
                  generalize hW0 : wr.alloc (.cells #[.int .i64 0] 3) = W0 at *
                  have hW0s : wr.heap.size + 1 = W0.heap.size := by rw [← hW0]; simp
                  generalize wr.heap.size = bn at *
                  have HL1 : Hid (LpA w pt n b15 bn lv (.slice a' ys.length c') ys (fun k => k = pt) 0 W0) := HL0.out
                  have hptl : pt < W0.heap.size := HL1.out.tk.lt
                  clear hW0 HL0
                  refine range_R (gf := 22) (lb := #[.pointer (some ⟨pt, 0, none⟩)]) rfl (enters_of Try.func22 (by kernel_rfl) rfl)
                    (all1_seq pt n ys W0 HL1.out.tk) (fun _ => rfl)
                    (fun k hk => by omega)
                    (fun pre x Wb W l r o h hl => h)
                    (fun D pre W => LpA w pt n b15 bn lv (.slice a' ys.length c') ys D pre.length W)
                    (fun c D pre W => c = .exit 4 ∧ ∃ k : Nat, ((k : Int) = lv ∧ k < ys.length) ∧ LpA w pt n b15 bn lv (.slice a' ys.length c') ys D k W)
                    (fun D D' s W W' h hk hD => h.stays hk hD)
                    (fun c D D' s W W' h hk hD => ⟨h.1, h.2.choose, h.2.choose_spec.1, h.2.choose_spec.2.stays hk hD⟩)
                    HL1.out
                    ?a1 ?assign ?body ?done ?stop
                  case assign =>
                    intro l x W K hK
                    simp only [allEnc]
                    gi_wp2
                    exact hK
                  case body =>
                    rintro l D pre x Wb W hl' hrec hDl hsub hL hk ⟨rfl, hlt⟩
                    have hL2 := hL.stays hk (fun k hk' => .inl hk')
                    obtain ⟨x8, x15, xn, xf, xw, _⟩ := hL2.cells HSee.out
                    obtain ⟨b, off, rfl, xc⟩ := xw hlt
                    have hup := hL2.up hlt (hsub pt rfl) h15n
                    have HU : Hid (Kept W (W.setCell ⟨bn, 0, none⟩ (.int .i64 ((pre.length : Int) + 1))) (fun j => ¬ D j) ∧ LpA w pt n b15 bn lv (.slice (some ⟨b, off, none⟩) ys.length c') ys D (pre.length + 1) (W.setCell ⟨bn, 0, none⟩ (.int .i64 ((pre.length : Int) + 1)))) := hup
                    have HL2 : Hid _ := hL2
                    have hbn := lt_of_block hL2.box
                    have h15l := (hL2.rl.holds b15 (.cells #[.slice (some ⟨b, off, none⟩) ys.length c'] 32 (0, 0)) (by simp [GA])).1
                    have h15l := lt_of_block h15l
                    clear hup hL hL2 hk hsub hDl hrec
                    generalize hkk : pre.length = kk at *
                    have HKK : Hid (pre.length = kk) := hkk
                    clear hkk
                    generalize ys[kk]?.getD 0 = xv at *
                    by_cases hlv : (kk : Int) = lv
                    · have hlv' : ((kk : Int) == lv) = true := by rw [beq_iff_eq]; exact hlv
                      have HLV : Hid ((kk : Int) = lv) := hlv
                      clear hlv
                      gi_wp2_with fail
                      exact ⟨Kept.refl _ _, rfl, kk, ⟨HLV.out, hlt⟩, HL2.out⟩
                    · have hlv' : ((kk : Int) == lv) = false := by rw [beq_eq_false_iff_ne]; exact hlv
                      clear hlv
                      gi_wp2_with fail
                      exact ⟨HU.out.1, (by show LpA w pt n b15 bn lv _ ys D (pre ++ [kk]).length _; rw [List.length_append, HKK.out]; exact HU.out.2)⟩
                  case done =>
                    rintro d1 D ks W hd1 hDd hS hL hK1
                    rw [hS] at hL
                    have hnlt : ¬ ((ys.length : Int) < ys.length) := by omega
                    obtain ⟨x8, x15, xn, xf, _, xc⟩ := hL.cells HSee.out
                    have hnx := hL.next
                    have hptl2 : pt < W.heap.size := hL.tk.lt
                    have hbw := lt_of_block hL.box
                    have HN : Hid (LpA w pt n b15 W.heap.size lv (.slice a' ys.length c') ys (fun j => j = pt) 0 (W.alloc (.cells #[.int .i64 0] 3))) := hnx.1
                    have h15n2 := hnx.2
                    have HD1 : Hid ((W.alloc (.cells #[.int .i64 0] 3)).heap[d1]? = some (.deferred (some [])) ∧ d1 ≠ pt ∧ w.heap.size + 2 ≤ d1) := by
                      refine ⟨(Below.heap_alloc _ _ _ (lt_of_block hK1)).trans hK1, fun e => by omega, by have := HL1.out.bnB; have := lt_of_block HL1.out.box; omega⟩
                    clear hnx hL hK1 hd1
                    gi_wp2_with fail
                    generalize hW2 : W.alloc (.cells #[.int .i64 0] 3) = W2 at *
                    have hW2s : W.heap.size + 1 = W2.heap.size := by rw [← hW2]; simp
                    generalize W.heap.size = b21 at *
                    have hptl3 : pt < W2.heap.size := by omega
                    clear hW2 x8 x15 xn xf
                    refine range_R (gf := 22) (lb := #[.pointer (some ⟨pt, 0, none⟩)]) rfl (enters_of Try.func22 (by kernel_rfl) rfl)
                      (all1_seq pt n ys W2 HN.out.tk) (fun _ => rfl)
                      (fun k hk => by omega)
                      (fun pre x Wb W l r o h hl => h)
                      (fun D pre W => LpA w pt n b15 b21 lv (.slice a' ys.length c') ys D pre.length W ∧ W.heap[d1]? = some (.deferred (some [])) ∧ ¬ D d1)
                      (fun c D pre W => False)
                      (fun D D' s W W' h hk hD => ⟨h.1.stays hk hD, hk.heap h.2.1 (fun e => h.2.2 e.1), fun e => by
                        rcases hD d1 e with e | e
                        · exact h.2.2 e
                        · have := lt_of_block h.2.1; omega⟩)
                      (fun c D D' s W W' h hk hD => h)
                      ⟨HN.out, HD1.out.1, fun e => HD1.out.2.1 e⟩
                      ?a2 ?assign2 ?body2 ?done2 ?stop2
                    case assign2 =>
                      intro l x W K hK
                      simp only [allEnc]
                      gi_wp2
                      exact hK
                    case body2 =>
                      rintro l D pre x Wb W hl' hrec hDl hsub ⟨hL, hd1, hnd⟩ hk ⟨rfl, hlt⟩
                      have hL2 := hL.stays hk (fun k hk' => .inl hk')
                      have hdW : W.heap[d1]? = some (.deferred (some [])) := hk.heap hd1 (fun e => hnd e.1)
                      obtain ⟨_, x15, xn, xf, xw, _⟩ := hL2.cells HSee.out
                      obtain ⟨b, off, rfl, xc⟩ := xw hlt
                      have hup := hL2.up hlt (hsub pt rfl) h15n2
                      have hne : d1 ≠ b21 := fun e => by
                        have := hL2.box
                        rw [← e, hdW] at this
                        cases this
                      have HU : Hid (Kept W (W.setCell ⟨b21, 0, none⟩ (.int .i64 ((pre.length : Int) + 1))) (fun j => ¬ D j) ∧ LpA w pt n b15 b21 lv (.slice (some ⟨b, off, none⟩) ys.length c') ys D (pre.length + 1) (W.setCell ⟨b21, 0, none⟩ (.int .i64 ((pre.length : Int) + 1))) ∧ (W.setCell ⟨b21, 0, none⟩ (.int .i64 ((pre.length : Int) + 1))).heap[d1]? = some (.deferred (some [])) ∧ ¬ D d1) := ⟨hup.1, hup.2, (Below.heap_setCell _ _ _ _ hne).trans hdW, hnd⟩
                      have hb21 := lt_of_block hL2.box
                      have h15l := (hL2.rl.holds b15 (.cells #[.slice (some ⟨b, off, none⟩) ys.length c'] 32 (0, 0)) (by simp [GA])).1
                      have h15l := lt_of_block h15l
                      clear hup hL hL2 hd1 hdW hk hsub hDl hrec
                      generalize hkk : pre.length = kk at *
                      have HKK : Hid (pre.length = kk) := hkk
                      clear hkk
                      generalize ys[kk]?.getD 0 = xv at *
                      gi_wp2_with fail
                      exact ⟨HU.out.1, (by show LpA w pt n b15 b21 lv _ ys D (pre ++ [kk]).length _; rw [List.length_append, HKK.out]; exact HU.out.2.1), HU.out.2.2⟩
                    case done2 =>
                      rintro d2 D ks2 W hd2 hDd2 hS2 ⟨hL, hd1, hnd⟩ hK2
                      obtain ⟨_, x15, xn, xf, _, _⟩ := hL.cells HSee.out
                      rw [hS2] at xn
                      have g10 := (hL.rl.holds (w.heap.size + 1) (.cells #[.bool false] 4 (0, 0)) (by simp [GA])).1
                      have x10 := cell_of_row W _ 0 _ _ _ g10
                      have f10 := frozen_of_row W _ 0 _ _ g10
                      have hb21 := lt_of_block hL.box
                      have h15l := (hL.rl.holds b15 (.cells #[.slice a' ys.length c'] 32 (0, 0)) (by simp [GA])).1
                      have h15l := lt_of_block h15l
                      have h10l := lt_of_block g10
                      have hdd : d1 ≠ d2 := fun e => hnd (by rw [e]; exact hDd2)
                      have n2 : w.heap.size + 2 ≤ d2 := by have := HN.out.bnB; omega
                      obtain ⟨X, hX⟩ : ∃ X, X = W.setCell ⟨w.heap.size + 1, 0, none⟩ (.bool true) := ⟨_, rfl⟩
                      have kX : Kept W X (· = w.heap.size + 1) := by rw [hX]; exact (Kept.refl W (· = w.heap.size + 1)).setCell ⟨w.heap.size + 1, 0, none⟩ _ (fun _ => rfl)
                      have xb : X.heap[w.heap.size + 1]? = some (.cells #[.bool true] 4 (0, 0)) := by rw [hX]; exact one_setCell g10
                      have d2X : X.heap[d2]? = some (.deferred (some [])) := kX.heap hK2 (fun e => by omega)
                      have d1X : (X.putObj d2 (.deferred none)).heap[d1]? = some (.deferred (some [])) := by
                        rw [World.putObj_heap_other hdd]; exact kX.heap hd1 (fun e => by have := HD1.out.2.2; omega)
                      have yb : ((X.putObj d2 (.deferred none)).putObj d1 (.deferred none)).heap[w.heap.size + 1]? = some (.cells #[.bool true] 4 (0, 0)) := by
                        rw [World.putObj_heap_other (by have := HD1.out.2.2; omega), World.putObj_heap_other (by omega)]; exact xb
                      have y0 : ((X.putObj d2 (.deferred none)).putObj d1 (.deferred none)).cell? ⟨w.heap.size + 1, 0, none⟩ = some (.bool true) := cell_of_row _ _ 0 _ _ _ yb
                      have HE : Hid (Below w.heap.size w ((X.putObj d2 (.deferred none)).putObj d1 (.deferred none)) ∧ X = W.setCell ⟨w.heap.size + 1, 0, none⟩ (.bool true) ∧ X.heap[d2]? = some (.deferred (some [])) ∧ (X.putObj d2 (.deferred none)).heap[d1]? = some (.deferred (some [])) ∧ ((X.putObj d2 (.deferred none)).putObj d1 (.deferred none)).cell? ⟨w.heap.size + 1, 0, none⟩ = some (.bool true)) := by
                        refine ⟨?_, hX, d2X, d1X, y0⟩
                        refine hL.rl.bel.trans (Kept.below (S := fun k => k = w.heap.size + 1 ∨ k = d2 ∨ k = d1) ?_ hL.rl.bel.size (fun k e => by have := HD1.out.2.2; omega))
                        exact (((kX.mono (S' := fun k => k = w.heap.size + 1 ∨ k = d2 ∨ k = d1) (fun k _ e => .inl e))).trans (kept_putObj X d2 _) (fun k _ e => .inr (.inl e))).trans (kept_putObj _ d1 _) (fun k _ e => .inr (.inr e))
                      clear y0 yb d1X d2X xb kX hX hL hd1 hK2 hS2 g10
                      gi_wp2_with fail
                      rw [← HE.out.2.1]
                      show LeavesInM _ _ _ _ _ _ _ .returning _
                      refine ⟨by simp, .inl ⟨_, _, rfl, run_takeDeferred HE.out.2.2.1, by simp, .inl ⟨_, _, rfl, run_takeDeferred HE.out.2.2.2.1, ?_⟩⟩⟩
                      refine ⟨.bool true, ?_, rfl, HE.out.1⟩
                      have hres : Try.f5.results = #[.cell 10 4] := by kernel_rfl
                      have y0 := HE.out.2.2.2.2
                      clear HE
                      simp only [results, hres]
                      generalize ((X.putObj d2 (.deferred none)).putObj d1 (.deferred none)) = wz at *
                      go_simp
                    case stop2 =>
                      rintro d D c pre W _ _ _ h _
                      exact h.elim
                  case stop =>
                    rintro d1 D c ks W hd1 hDd hS ⟨rfl, kz, ⟨hkz, hkl⟩, hL⟩ hK1
                    have hkz' : ((kz : Int) != lv) = false := by simp [hkz]
                    have HKZ : Hid ((kz : Int) = lv) := hkz
                    clear hkz
                    obtain ⟨x8, x15, xn, xf, _, xc⟩ := hL.cells HSee.out
                    have hnx := hL.next
                    have hptl2 : pt < W.heap.size := hL.tk.lt
                    have hbw := lt_of_block hL.box
                    have HN : Hid (LpA w pt n b15 W.heap.size lv (.slice a' ys.length c') ys (fun j => j = pt) 0 (W.alloc (.cells #[.int .i64 0] 3))) := hnx.1
                    have h15n2 := hnx.2
                    have HD1 : Hid ((W.alloc (.cells #[.int .i64 0] 3)).heap[d1]? = some (.deferred (some [])) ∧ d1 ≠ pt ∧ w.heap.size + 2 ≤ d1) := by
                      refine ⟨(Below.heap_alloc _ _ _ (lt_of_block hK1)).trans hK1, fun e => by omega, by have := HL1.out.bnB; have := lt_of_block HL1.out.box; omega⟩
                    clear hnx hL hK1 hd1
                    gi_wp2_with fail
                    generalize hW2 : W.alloc (.cells #[.int .i64 0] 3) = W2 at *
                    have hW2s : W.heap.size + 1 = W2.heap.size := by rw [← hW2]; simp
                    generalize W.heap.size = b21 at *
                    have hptl3 : pt < W2.heap.size := by omega
                    clear hW2 x8 x15 xn xf
                    refine range_R (gf := 22) (lb := #[.pointer (some ⟨pt, 0, none⟩)]) rfl (enters_of Try.func22 (by kernel_rfl) rfl)
                      (all1_seq pt n ys W2 HN.out.tk) (fun _ => rfl)
                      (fun k hk => by omega)
                      (fun pre x Wb W l r o h hl => h)
                      (fun D pre W => LpA w pt n b15 b21 lv (.slice a' ys.length c') ys D pre.length W ∧ W.heap[d1]? = some (.deferred (some [])) ∧ ¬ D d1)
                      (fun c D pre W => False)
                      (fun D D' s W W' h hk hD => ⟨h.1.stays hk hD, hk.heap h.2.1 (fun e => h.2.2 e.1), fun e => by
                        rcases hD d1 e with e | e
                        · exact h.2.2 e
                        · have := lt_of_block h.2.1; omega⟩)
                      (fun c D D' s W W' h hk hD => h)
                      ⟨HN.out, HD1.out.1, fun e => HD1.out.2.1 e⟩
                      ?a3 ?assign3 ?body3 ?done3 ?stop3
                    case assign3 =>
                      intro l x W K hK
                      simp only [allEnc]
                      gi_wp2
                      exact hK
                    case body3 =>
                      rintro l D pre x Wb W hl' hrec hDl hsub ⟨hL, hd1, hnd⟩ hk ⟨rfl, hlt⟩
                      have hL2 := hL.stays hk (fun k hk' => .inl hk')
                      have hdW : W.heap[d1]? = some (.deferred (some [])) := hk.heap hd1 (fun e => hnd e.1)
                      obtain ⟨_, x15, xn, xf, xw, _⟩ := hL2.cells HSee.out
                      obtain ⟨b, off, rfl, xc⟩ := xw hlt
                      have hup := hL2.up hlt (hsub pt rfl) h15n2
                      have hne : d1 ≠ b21 := fun e => by
                        have := hL2.box
                        rw [← e, hdW] at this
                        cases this
                      have HU : Hid (Kept W (W.setCell ⟨b21, 0, none⟩ (.int .i64 ((pre.length : Int) + 1))) (fun j => ¬ D j) ∧ LpA w pt n b15 b21 lv (.slice (some ⟨b, off, none⟩) ys.length c') ys D (pre.length + 1) (W.setCell ⟨b21, 0, none⟩ (.int .i64 ((pre.length : Int) + 1))) ∧ (W.setCell ⟨b21, 0, none⟩ (.int .i64 ((pre.length : Int) + 1))).heap[d1]? = some (.deferred (some [])) ∧ ¬ D d1) := ⟨hup.1, hup.2, (Below.heap_setCell _ _ _ _ hne).trans hdW, hnd⟩
                      have hb21 := lt_of_block hL2.box
                      have h15l := (hL2.rl.holds b15 (.cells #[.slice (some ⟨b, off, none⟩) ys.length c'] 32 (0, 0)) (by simp [GA])).1
                      have h15l := lt_of_block h15l
                      clear hup hL hL2 hd1 hdW hk hsub hDl hrec
                      generalize hkk : pre.length = kk at *
                      have HKK : Hid (pre.length = kk) := hkk
                      clear hkk
                      generalize ys[kk]?.getD 0 = xv at *
                      gi_wp2_with fail
                      exact ⟨HU.out.1, (by show LpA w pt n b15 b21 lv _ ys D (pre ++ [kk]).length _; rw [List.length_append, HKK.out]; exact HU.out.2.1), HU.out.2.2⟩
                    case done3 =>
                      rintro d2 D ks2 W hd2 hDd2 hS2 ⟨hL, hd1, hnd⟩ hK2
                      obtain ⟨_, x15, xn, xf, _, _⟩ := hL.cells HSee.out
                      rw [hS2] at xn
                      have g10 := (hL.rl.holds (w.heap.size + 1) (.cells #[.bool false] 4 (0, 0)) (by simp [GA])).1
                      have x10 := cell_of_row W _ 0 _ _ _ g10
                      have f10 := frozen_of_row W _ 0 _ _ g10
                      have hb21 := lt_of_block hL.box
                      have h15l := (hL.rl.holds b15 (.cells #[.slice a' ys.length c'] 32 (0, 0)) (by simp [GA])).1
                      have h15l := lt_of_block h15l
                      have h10l := lt_of_block g10
                      have hdd : d1 ≠ d2 := fun e => hnd (by rw [e]; exact hDd2)
                      have n2 : w.heap.size + 2 ≤ d2 := by have := HN.out.bnB; omega
                      obtain ⟨X, hX⟩ : ∃ X, X = W.setCell ⟨w.heap.size + 1, 0, none⟩ (.bool true) := ⟨_, rfl⟩
                      have kX : Kept W X (· = w.heap.size + 1) := by rw [hX]; exact (Kept.refl W (· = w.heap.size + 1)).setCell ⟨w.heap.size + 1, 0, none⟩ _ (fun _ => rfl)
                      have xb : X.heap[w.heap.size + 1]? = some (.cells #[.bool true] 4 (0, 0)) := by rw [hX]; exact one_setCell g10
                      have d2X : X.heap[d2]? = some (.deferred (some [])) := kX.heap hK2 (fun e => by omega)
                      have d1X : (X.putObj d2 (.deferred none)).heap[d1]? = some (.deferred (some [])) := by
                        rw [World.putObj_heap_other hdd]; exact kX.heap hd1 (fun e => by have := HD1.out.2.2; omega)
                      have yb : ((X.putObj d2 (.deferred none)).putObj d1 (.deferred none)).heap[w.heap.size + 1]? = some (.cells #[.bool true] 4 (0, 0)) := by
                        rw [World.putObj_heap_other (by have := HD1.out.2.2; omega), World.putObj_heap_other (by omega)]; exact xb
                      have y0 : ((X.putObj d2 (.deferred none)).putObj d1 (.deferred none)).cell? ⟨w.heap.size + 1, 0, none⟩ = some (.bool true) := cell_of_row _ _ 0 _ _ _ yb
                      have HE : Hid (Below w.heap.size w ((X.putObj d2 (.deferred none)).putObj d1 (.deferred none)) ∧ X = W.setCell ⟨w.heap.size + 1, 0, none⟩ (.bool true) ∧ X.heap[d2]? = some (.deferred (some [])) ∧ (X.putObj d2 (.deferred none)).heap[d1]? = some (.deferred (some [])) ∧ ((X.putObj d2 (.deferred none)).putObj d1 (.deferred none)).cell? ⟨w.heap.size + 1, 0, none⟩ = some (.bool true)) := by
                        refine ⟨?_, hX, d2X, d1X, y0⟩
                        refine hL.rl.bel.trans (Kept.below (S := fun k => k = w.heap.size + 1 ∨ k = d2 ∨ k = d1) ?_ hL.rl.bel.size (fun k e => by have := HD1.out.2.2; omega))
                        exact (((kX.mono (S' := fun k => k = w.heap.size + 1 ∨ k = d2 ∨ k = d1) (fun k _ e => .inl e))).trans (kept_putObj X d2 _) (fun k _ e => .inr (.inl e))).trans (kept_putObj _ d1 _) (fun k _ e => .inr (.inr e))
                      clear y0 yb d1X d2X xb kX hX hL hd1 hK2 hS2 g10
                      gi_wp2_with fail
                      rw [← HE.out.2.1]
                      show LeavesInM _ _ _ _ _ _ _ .returning _
                      refine ⟨by simp, .inl ⟨_, _, rfl, run_takeDeferred HE.out.2.2.1, by simp, .inl ⟨_, _, rfl, run_takeDeferred HE.out.2.2.2.1, ?_⟩⟩⟩
                      refine ⟨.bool true, ?_, rfl, HE.out.1⟩
                      have hres : Try.f5.results = #[.cell 10 4] := by kernel_rfl
                      have y0 := HE.out.2.2.2.2
                      clear HE
                      simp only [results, hres]
                      generalize ((X.putObj d2 (.deferred none)).putObj d1 (.deferred none)) = wz at *
                      go_simp
                    case stop3 =>
                      rintro d D c pre W _ _ _ h _
                      exact h.elim

end Go.Proofs.Ytcbbclniginciaa
