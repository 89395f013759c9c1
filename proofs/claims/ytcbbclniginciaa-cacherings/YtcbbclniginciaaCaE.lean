/- A script of calls of layer 13 that came in, opened; no Go function is walked here. -/
import Derived.Test.YtcbbclniginciaaCaC
import Derived.Test.YtcbbclniginciaaTxOpen
import Derived.Deep.MidRow
namespace Go.Proofs.Ytcbbclniginciaa
open Go.ChangeShapes Go.WideShapes Go.ChangeAt Go.RowKit
set_option maxRecDepth 8000

/-- One call: its kind, its ring, its number; its other cells. -/
structure OpC where
  kind : Int
  on : Int
  n : Int
  rest : List Value

abbrev OpC.cells (o : OpC) : List Value := [.int .i64 o.kind, .int .i64 o.on, .int .i64 o.n] ++ o.rest

structure OpC.ok (o : OpC) : Prop where
  len : o.rest.length = 20
  one : ∀ v ∈ o.rest, v.oneCell' = true
  on0 : -9223372036854775808 ≤ o.on
  on1 : o.on ≤ 9223372036854775807
  n0 : -9223372036854775808 ≤ o.n
  n1 : o.n ≤ 9223372036854775807

def SeesOpsC (w : World) (v : Value) (ops : List OpC) : Prop :=
  ∃ (ao : Option Addr) (cap : Nat), v = .slice ao ops.length cap ∧ ops.length ≤ cap ∧ cap ≤ maxLen ∧ (∀ o ∈ ops, o.ok) ∧
    (ops = [] ∨ ∃ b off, ao = some ⟨b, off, none⟩ ∧ ∀ (i : Nat) (h : i < ops.length), w.rangeAt b (off + i * 23) ops[i].cells)

theorem sees_one {w : World} {v : Value} {xs : List Int} (h : Sees w v xs) : v.oneCell' = true := by
  obtain ⟨a, c, rfl, _⟩ := h; rfl
theorem seesR_one {w : World} {v : Value} {z : Nat} {cs : List (List Value)} (h : SeesR w v z cs) : v.oneCell' = true := by
  obtain ⟨a, c, rfl, _⟩ := h; rfl

theorem seesTx_one {w : World} {cs : List Value} {t : TxD} (h : SeesTx w cs t) : ∀ v ∈ cs, v.oneCell' = true := by
  obtain ⟨rc, rfl, h⟩ := h
  obtain ⟨ep, n, srv, boot, num, rq⟩ := t
  cases h with
  | mk f n ops dv av wv ov oc hd ha hw ho hs =>
    intro v hv
    simp only [txHead, rqCells, List.cons_append, List.nil_append, List.mem_cons, List.not_mem_nil, or_false] at hv
    rcases hv with rfl | rfl | rfl | rfl | rfl | rfl | rfl | rfl | rfl | rfl | rfl | rfl | rfl | rfl | rfl | rfl
    all_goals first | rfl | exact sees_one hd | exact seesR_one ha | exact seesR_one hw | exact seesR_one ho

section
variable {H : Type} {enc : TypeId × Value → H} {W : World} {base : Nat} {spare : Nat → Bool} {held : Bool}

set_option maxHeartbeats 400000 in
theorem open_opC {fuel : Nat} {cs : List Value} {x : DataW H × List MemPlace} (h : DataW.trod enc Try.prog W base spare held fuel 50 cs = some x) (hw : (x.1.weights Try.prog 50).all (· ≤ reachBytes) = true) :
    ∃ o : OpC, cs = o.cells ∧ o.ok := by
  have hcells : Try.prog.cellsOf 50 = 23 := by kernel_rfl
  obtain ⟨xs, n, _, hx, hl, hxl, hf⟩ := DataW.trod_struct Try.underlying50 h
  rw [hcells] at hl
  have q0 : Try.prog.cellsOf 3 = 1 := by kernel_rfl
  have q1 : Try.prog.cellsOf 2 = 1 := by kernel_rfl
  have q2 : Try.prog.cellsOf 48 = 16 := by kernel_rfl
  have q3 : Try.prog.cellsOf 37 = 2 := by kernel_rfl
  have g0 : DataW.trod enc Try.prog W base spare held n 3 ((cs.drop 0).take (Try.prog.cellsOf 3)) = xs[0]? := hf 0 _ rfl
  have g1 : DataW.trod enc Try.prog W base spare held n 3 ((cs.drop 1).take (Try.prog.cellsOf 3)) = xs[1]? := hf 1 _ rfl
  have g2 : DataW.trod enc Try.prog W base spare held n 2 ((cs.drop 2).take (Try.prog.cellsOf 2)) = xs[2]? := hf 2 _ rfl
  have g3 : DataW.trod enc Try.prog W base spare held n 48 ((cs.drop 3).take (Try.prog.cellsOf 48)) = xs[3]? := hf 3 _ rfl
  have g4 : DataW.trod enc Try.prog W base spare held n 37 ((cs.drop 19).take (Try.prog.cellsOf 37)) = xs[4]? := hf 4 _ rfl
  have g5 : DataW.trod enc Try.prog W base spare held n 37 ((cs.drop 21).take (Try.prog.cellsOf 37)) = xs[5]? := hf 5 _ rfl
  have hxl2 : xs.length = 6 := hxl
  clear hf hxl
  rw [q0] at g0 g1
  rw [q1] at g2
  rw [q2] at g3
  rw [q3] at g4 g5
  match xs, hxl2, cs, hl with
  | [y0, y1, y2, y3, y4, y5], _, [v0, v1, v2, v3, v4, v5, v6, v7, v8, v9, v10, v11, v12, v13, v14, v15, v16, v17, v18, v19, v20, v21, v22], _ =>
    rw [hx] at hw
    simp only [DataW.weights, Try.underlying50] at hw
    have w3 := parts_all (t := 48) hw 3 y3.1 rfl rfl
    obtain ⟨a0, e0, _, b0⟩ := DataW.trod_int Try.underlying3 (show DataW.trod enc Try.prog W base spare held n 3 [v0] = some y0 from g0)
    obtain ⟨a1, e1, _, b1⟩ := DataW.trod_int Try.underlying3 (show DataW.trod enc Try.prog W base spare held n 3 [v1] = some y1 from g1)
    obtain ⟨a2, e2, _, b2⟩ := DataW.trod_int Try.underlying2 (show DataW.trod enc Try.prog W base spare held n 2 [v2] = some y2 from g2)
    obtain ⟨t, ht, _⟩ := open_tx (show DataW.trod enc Try.prog W base spare held n 48 [v3, v4, v5, v6, v7, v8, v9, v10, v11, v12, v13, v14, v15, v16, v17, v18] = some y3 from g3) w3
    obtain ⟨z1, z2, rfl, rfl, _⟩ := open_u32x2 (show DataW.trod enc Try.prog W base spare held n 37 [v19, v20] = some y4 from g4)
    obtain ⟨z3, z4, rfl, rfl, _⟩ := open_u32x2 (show DataW.trod enc Try.prog W base spare held n 37 [v21, v22] = some y5 from g5)
    simp at e0 e1 e2
    subst e0 e1 e2
    have k1 := bounds_i64 b1
    have k2 := bounds_i64 b2
    refine ⟨⟨a0, a1, a2, [v3, v4, v5, v6, v7, v8, v9, v10, v11, v12, v13, v14, v15, v16, v17, v18] ++ [.int .u32 z1, .int .u32 z2, .int .u32 z3, .int .u32 z4]⟩, rfl, ⟨rfl, fun v hv => ?_, k1.1, k1.2, k2.1, k2.2⟩⟩
    rcases List.mem_append.1 hv with hv | hv
    · exact seesTx_one ht v hv
    · simp only [List.mem_cons, List.not_mem_nil, or_false] at hv
      rcases hv with rfl | rfl | rfl | rfl <;> rfl

theorem open_opsC {fuel : Nat} {v : Value} {x : DataW H × List MemPlace} (h : DataW.trod enc Try.prog W base spare held fuel 22 [v] = some x) (hw : (x.1.weights Try.prog 22).all (· ≤ reachBytes) = true) :
    ∃ l : List OpC, SeesOpsC W v l ∧ l.length ≤ 140737488355328 := by
  obtain ⟨cs, hs, hl, hc⟩ := open_rows Try.underlying22 (z := 23) (by kernel_rfl) (of_decide_eq_true (by kernel_rfl)) (by omega) h hw
  obtain ⟨l, rfl, hok⟩ := list_map_of (f := OpC.cells) (Q := OpC.ok) (cs := cs) (fun c hcc => by
    obtain ⟨n, y, h1, _, h3⟩ := hc c hcc
    exact open_opC h1 h3)
  have hr := reachK
  rw [List.length_map] at hl
  refine ⟨l, ?_, by omega⟩
  obtain ⟨ao, cap, rfl, h1, h2, _, h3⟩ := hs
  rw [List.length_map] at h1
  refine ⟨ao, cap, by rw [List.length_map], h1, h2, hok, ?_⟩
  rcases h3 with h3 | ⟨b, off, rfl, h3⟩
  · exact .inl (by simpa using h3)
  · refine .inr ⟨b, off, rfl, fun i hi => ?_⟩
    intro j u hu
    have hlen : l[i].cells.length = 23 := by
      have := (hok _ (List.getElem_mem hi)).len
      simp [OpC.cells, this]
    have hj : j < 23 := by
      have := (List.getElem?_eq_some_iff.1 hu).1
      omega
    have := h3 i (by simpa using hi) j hj
    rw [this]
    simp only [List.getElem_map]
    rw [List.getD_eq_getElem?_getD, hu]
    rfl
end
end Go.Proofs.Ytcbbclniginciaa
