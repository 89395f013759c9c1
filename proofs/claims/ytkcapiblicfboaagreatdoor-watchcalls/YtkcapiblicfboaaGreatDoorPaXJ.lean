/- The region of path.Above's round, whose operations come in any order: it hands the path ahead of a place to the loop around it. -/
import Derived.Test.YtkcapiblicfboaaGreatDoorPaUJ
import Derived.OrdersIn
namespace Go.Proofs.YtkcapiblicfboaaGreatDoor
open Go.RowKit Go.Shelf
set_option maxRecDepth 8000
attribute [local go_sem] Oper.semAt_some

/-- The operations of the region. -/
def abvOps : Array Oper := #[{ dst := some 19, op := Op.load 188 (Operand.tmp 2), type := 188, pos := "path.go:59", after := #[], guard := none },
    { dst := some 20, op := Op.load 9 (Operand.tmp 1), type := 9, pos := "path.go:59", after := #[], guard := none },
    { dst := some 21, op := Op.move (Operand.tmp 3), type := 3, pos := "path.go:59", after := #[], guard := none },
    { dst := some 22, op := Op.call { callee := Callee.value (Operand.func 150), args := #[Operand.tmp 20, Operand.tmp 21], argTypes := #[9, 3] }, type := 9, pos := "path.go:59", after := #[{ on := 1, ground := Ground.data }, { on := 2, ground := Ground.data }], guard := none },
    { dst := some 23, op := Op.call { callee := Callee.value (Operand.tmp 19), args := #[Operand.tmp 22], argTypes := #[9] }, type := 4, pos := "path.go:59", after := #[{ on := 0, ground := Ground.data }, { on := 3, ground := Ground.data }, { on := 3, ground := Ground.chain }], guard := none },
    { dst := some 24, op := Op.unOp UnOp.not 4 (Operand.tmp 23), type := 4, pos := "path.go:59", after := #[{ on := 4, ground := Ground.data }], guard := none }]

/-- The variables of the round: those ahead of the region, and the region's six. -/
def A (t : Array Value) (v0 v1 v2 v3 v4 v5 : Value) : Act := { tmps := #[t.getD 0 undef, t.getD 1 undef, t.getD 2 undef, t.getD 3 undef, t.getD 4 undef, t.getD 5 undef, t.getD 6 undef, t.getD 7 undef, t.getD 8 undef, t.getD 9 undef, t.getD 10 undef, t.getD 11 undef, t.getD 12 undef, t.getD 13 undef, t.getD 14 undef, t.getD 15 undef, t.getD 16 undef, t.getD 17 undef, t.getD 18 undef, v0, v1, v2, v3, v4, v5], defers := [] }

/-- An operation that calls nothing and leaves the world. -/
theorem opIn_calm {F : Fence} {n : Nat} {P : Program} {ops : Array Oper} {Q : Exit → Act → World → Prop} {i : Nat} {K : Act → World → Prop} {a : Act} {w : World} {o : Oper} {v : Value} (hi : ops[i]? = some o) (hg : o.guard = none)
    (hab : o.about P w a.eval = none) (hd : ∀ c, o.op ≠ .defer c) (hv : (execOp a.eval o).run P w = .ok (.value v) w) (h : K (a.put o.dst v) w) : wpOpIn F n P ops Q i K a w := by
  unfold wpOpIn
  simp only [hi, Region.wanted, hg, if_true]
  unfold Oper.wpIn
  refine ⟨fun f hf => (by rw [hab] at hf; cases hf), ?_⟩
  rw [Oper.semAt_plain F _ _ hd, hv]
  exact h

set_option maxHeartbeats 1000000 in
theorem above_region (l' : Nat) {Q : Exit → Act → World → Prop} (l y c0 : Nat) (s : ByteArray) (p : Nat) (pv : Value) (t : Array Value) (w : World) (R : Ending → World → Prop)
    (h1 : t.getD 1 undef = .pointer (some ⟨c0, 0, none⟩)) (h2 : t.getD 2 undef = .pointer (some ⟨y, 0, none⟩)) (h3 : t.getD 3 undef = .int .i64 (p : Int))
    (hy : w.cell? ⟨y, 0, none⟩ = some (.func (.yield l) #[] #[])) (hc : w.cell? ⟨c0, 0, none⟩ = some (.string s))
    (hah : Calls Tryz.prog 150 #[.string s, .int .i64 (p : Int)] w.drew fun e w' => e = .returned pv ∧ w' = w.drew)
    (hY : YieldAt Fence.wide 0 Tryz.prog l #[pv] w.drew R) (hR : ∀ e W, R e W → ∃ b, e = .returned (.bool b) ∧ Q .normal (A t (.func (.yield l) #[] #[]) (.string s) (.int .i64 (p : Int)) pv (.bool b) (.bool (!b))) W) :
    (Code.region 4 abvOps true).wpIn (Fence.wide.inRound l') 0 Tryz.prog Q (A t undef undef undef undef undef undef) w := by
  have hm : Tryz.prog.follows .mixedOrders = true := by kernel_rfl
  refine wpIn_region_any hm ?_
  obtain ⟨yv, hyv⟩ : ∃ yv, yv = Value.func (.yield l) #[] #[] := ⟨_, rfl⟩
  have hyd : w.drew.cell? ⟨y, 0, none⟩ = some yv := by rw [hyv]; exact hy
  have hcd : w.drew.cell? ⟨c0, 0, none⟩ = some (.string s) := hc
  have step0 : ∀ (K : Act → World → Prop) (v1 v2 v3 : Value), K (A t yv v1 v2 v3 undef undef) w.drew → wpOpIn (Fence.wide.inRound l') 0 Tryz.prog abvOps Q 0 K (A t undef v1 v2 v3 undef undef) w.drew := fun K v1 v2 v3 h => by
    refine opIn_calm (v := yv) (o := abvOps[0]) rfl rfl rfl (fun c => by simp [abvOps]) ?_ h
    have e2 : (A t undef v1 v2 v3 undef undef).eval (Operand.tmp 2) = .pointer (some ⟨y, 0, none⟩) := h2
    simp only [abvOps, List.getElem_toArray, List.getElem_cons_zero, execOp, e2]
    go_simp
  have step1 : ∀ (K : Act → World → Prop) (v0 v2 v3 : Value), K (A t v0 (.string s) v2 v3 undef undef) w.drew → wpOpIn (Fence.wide.inRound l') 0 Tryz.prog abvOps Q 1 K (A t v0 undef v2 v3 undef undef) w.drew := fun K v0 v2 v3 h => by
    refine opIn_calm (v := .string s) (o := abvOps[1]) rfl rfl rfl (fun c => by simp [abvOps]) ?_ h
    have e2 : (A t v0 undef v2 v3 undef undef).eval (Operand.tmp 1) = .pointer (some ⟨c0, 0, none⟩) := h1
    simp only [abvOps, List.getElem_toArray, List.getElem_cons_zero, List.getElem_cons_succ, execOp, e2]
    go_simp
  have step2 : ∀ (K : Act → World → Prop) (v0 v1 v3 : Value), K (A t v0 v1 (.int .i64 (p : Int)) v3 undef undef) w.drew → wpOpIn (Fence.wide.inRound l') 0 Tryz.prog abvOps Q 2 K (A t v0 v1 undef v3 undef undef) w.drew := fun K v0 v1 v3 h => by
    refine opIn_calm (v := .int .i64 (p : Int)) (o := abvOps[2]) rfl rfl rfl (fun c => by simp [abvOps]) ?_ h
    have e2 : (A t v0 v1 undef v3 undef undef).eval (Operand.tmp 3) = .int .i64 (p : Int) := h3
    simp only [abvOps, List.getElem_toArray, List.getElem_cons_zero, List.getElem_cons_succ, execOp, e2]
    go_simp
  have step3 : ∀ (K : Act → World → Prop) (v0 : Value), K (A t v0 (.string s) (.int .i64 (p : Int)) pv undef undef) w.drew → wpOpIn (Fence.wide.inRound l') 0 Tryz.prog abvOps Q 3 K (A t v0 (.string s) (.int .i64 (p : Int)) undef undef undef) w.drew := fun K v0 h => by
    unfold wpOpIn
    simp only [show abvOps[3]? = some abvOps[3] from rfl, Region.wanted, show abvOps[3].guard = none from rfl, if_true]
    have e1 : (A t v0 (.string s) (.int .i64 (p : Int)) undef undef undef).tmps[20]?.getD undef = .string s := rfl
    have e2 : (A t v0 (.string s) (.int .i64 (p : Int)) undef undef undef).tmps[21]?.getD undef = .int .i64 (p : Int) := rfl
    have ee : ∀ args w, (callFunc 150 args).run Tryz.prog w = .ok (.enter 150 args) w := enters_of Tryz.func150 (by kernel_rfl) rfl
    have hrun : (execOp (A t v0 (.string s) (.int .i64 (p : Int)) undef undef undef).eval abvOps[3]).run Tryz.prog w.drew = .ok (.enter 150 #[.string s, .int .i64 (p : Int)]) w.drew := by
      simp [abvOps, execOp, resolve, invoke, e1, e2, Act.eval, go_sem, ee]
    unfold Oper.wpIn
    refine ⟨fun f hf => ?_, ?_⟩
    · trivial
    · rw [Oper.semAt_plain (Fence.wide.inRound l') _ _ (fun c => by simp [abvOps]), hrun]
      refine ⟨(fun h => by cases h), (callsIn_wide.2 hah).mono ?_⟩
      rintro e w' ⟨rfl, rfl⟩
      exact h
  have n0123 : wpAnyIn (Fence.wide.inRound l') 0 Tryz.prog .any abvOps Q 2 #[true, true, true, true, false, false] (A t yv (.string s) (.int .i64 (p : Int)) pv undef undef) w.drew := by
    have hr : Region.ready .any abvOps #[true, true, true, true, false, false] = [4] := by kernel_rfl
    refine ⟨(fun h => by rw [hr] at h; cases h), fun i hi => ?_⟩
    rw [hr] at hi
    simp only [List.mem_cons, List.not_mem_nil, or_false] at hi
    subst hi
    unfold wpOpIn
    simp only [show abvOps[4]? = some abvOps[4] from rfl, Region.wanted, show abvOps[4].guard = none from rfl, if_true]
    obtain ⟨fn, tmps, assign, body, hyr, hRd⟩ := hY
    subst hyv
    have e1 : (A t (.func (.yield l) #[] #[]) (.string s) (.int .i64 (p : Int)) pv undef undef).tmps[22]?.getD undef = pv := rfl
    have e2 : (A t (.func (.yield l) #[] #[]) (.string s) (.int .i64 (p : Int)) pv undef undef).tmps[19]?.getD undef = .func (.yield l) #[] #[] := rfl
    have hrun : (execOp (A t (.func (.yield l) #[] #[]) (.string s) (.int .i64 (p : Int)) pv undef undef).eval abvOps[4]).run Tryz.prog w.drew = .ok (.round l fn tmps assign body) w.drew := by
      simp [abvOps, execOp, resolve, invoke, e1, e2, go_sem, hyr]
    unfold Oper.wpIn
    refine ⟨fun f hf => ?_, ?_⟩
    · trivial
    · rw [Oper.semAt_plain (Fence.wide.inRound l') _ _ (fun c => by simp [abvOps]), hrun]
      refine ⟨(fun h => by cases h), RoundIn.mono (F := Fence.wide.inRound l') hRd ?_⟩
      intro e W hRe
      obtain ⟨b, rfl, hQb⟩ := hR e W hRe
      have hr5 : Region.ready .any abvOps #[true, true, true, true, true, false] = [5] := by kernel_rfl
      have hr6 : Region.ready .any abvOps #[true, true, true, true, true, true] = [] := by kernel_rfl
      show wpAnyIn (Fence.wide.inRound l') 0 Tryz.prog .any abvOps Q 1 #[true, true, true, true, true, false] (A t (.func (.yield l) #[] #[]) (.string s) (.int .i64 (p : Int)) pv (.bool b) undef) W
      refine ⟨(fun h => by rw [hr5] at h; cases h), fun i hi => ?_⟩
      rw [hr5] at hi
      simp only [List.mem_cons, List.not_mem_nil, or_false] at hi
      subst hi
      have e5 : (A t (.func (.yield l) #[] #[]) (.string s) (.int .i64 (p : Int)) pv (.bool b) undef).tmps[23]?.getD undef = .bool b := rfl
      refine opIn_calm (v := .bool (!b)) (o := abvOps[5]) rfl rfl rfl (fun c => by simp [abvOps]) ?_ ?_
      · simp [abvOps, execOp, e5, go_sem]
      · exact ⟨hr6, hQb⟩
  have n012 : wpAnyIn (Fence.wide.inRound l') 0 Tryz.prog .any abvOps Q 3 #[true, true, true, false, false, false] (A t yv (.string s) (.int .i64 (p : Int)) undef undef undef) w.drew := by
    have hr : Region.ready .any abvOps #[true, true, true, false, false, false] = [3] := by kernel_rfl
    refine ⟨(fun h => by rw [hr] at h; cases h), fun i hi => ?_⟩
    rw [hr] at hi
    simp only [List.mem_cons, List.not_mem_nil, or_false] at hi
    subst hi
    · exact step3 _ _ n0123
  have n123 : wpAnyIn (Fence.wide.inRound l') 0 Tryz.prog .any abvOps Q 3 #[false, true, true, true, false, false] (A t undef (.string s) (.int .i64 (p : Int)) pv undef undef) w.drew := by
    have hr : Region.ready .any abvOps #[false, true, true, true, false, false] = [0] := by kernel_rfl
    refine ⟨(fun h => by rw [hr] at h; cases h), fun i hi => ?_⟩
    rw [hr] at hi
    simp only [List.mem_cons, List.not_mem_nil, or_false] at hi
    subst hi
    · exact step0 _ _ _ _ n0123
  have n01 : wpAnyIn (Fence.wide.inRound l') 0 Tryz.prog .any abvOps Q 4 #[true, true, false, false, false, false] (A t yv (.string s) undef undef undef undef) w.drew := by
    have hr : Region.ready .any abvOps #[true, true, false, false, false, false] = [2] := by kernel_rfl
    refine ⟨(fun h => by rw [hr] at h; cases h), fun i hi => ?_⟩
    rw [hr] at hi
    simp only [List.mem_cons, List.not_mem_nil, or_false] at hi
    subst hi
    · exact step2 _ _ _ _ n012
  have n02 : wpAnyIn (Fence.wide.inRound l') 0 Tryz.prog .any abvOps Q 4 #[true, false, true, false, false, false] (A t yv undef (.int .i64 (p : Int)) undef undef undef) w.drew := by
    have hr : Region.ready .any abvOps #[true, false, true, false, false, false] = [1] := by kernel_rfl
    refine ⟨(fun h => by rw [hr] at h; cases h), fun i hi => ?_⟩
    rw [hr] at hi
    simp only [List.mem_cons, List.not_mem_nil, or_false] at hi
    subst hi
    · exact step1 _ _ _ _ n012
  have n12 : wpAnyIn (Fence.wide.inRound l') 0 Tryz.prog .any abvOps Q 4 #[false, true, true, false, false, false] (A t undef (.string s) (.int .i64 (p : Int)) undef undef undef) w.drew := by
    have hr : Region.ready .any abvOps #[false, true, true, false, false, false] = [0, 3] := by kernel_rfl
    refine ⟨(fun h => by rw [hr] at h; cases h), fun i hi => ?_⟩
    rw [hr] at hi
    simp only [List.mem_cons, List.not_mem_nil, or_false] at hi
    rcases hi with rfl | rfl
    · exact step0 _ _ _ _ n012
    · exact step3 _ _ n123
  have n0 : wpAnyIn (Fence.wide.inRound l') 0 Tryz.prog .any abvOps Q 5 #[true, false, false, false, false, false] (A t yv undef undef undef undef undef) w.drew := by
    have hr : Region.ready .any abvOps #[true, false, false, false, false, false] = [1, 2] := by kernel_rfl
    refine ⟨(fun h => by rw [hr] at h; cases h), fun i hi => ?_⟩
    rw [hr] at hi
    simp only [List.mem_cons, List.not_mem_nil, or_false] at hi
    rcases hi with rfl | rfl
    · exact step1 _ _ _ _ n01
    · exact step2 _ _ _ _ n02
  have n1 : wpAnyIn (Fence.wide.inRound l') 0 Tryz.prog .any abvOps Q 5 #[false, true, false, false, false, false] (A t undef (.string s) undef undef undef undef) w.drew := by
    have hr : Region.ready .any abvOps #[false, true, false, false, false, false] = [0, 2] := by kernel_rfl
    refine ⟨(fun h => by rw [hr] at h; cases h), fun i hi => ?_⟩
    rw [hr] at hi
    simp only [List.mem_cons, List.not_mem_nil, or_false] at hi
    rcases hi with rfl | rfl
    · exact step0 _ _ _ _ n01
    · exact step2 _ _ _ _ n12
  have n2 : wpAnyIn (Fence.wide.inRound l') 0 Tryz.prog .any abvOps Q 5 #[false, false, true, false, false, false] (A t undef undef (.int .i64 (p : Int)) undef undef undef) w.drew := by
    have hr : Region.ready .any abvOps #[false, false, true, false, false, false] = [0, 1] := by kernel_rfl
    refine ⟨(fun h => by rw [hr] at h; cases h), fun i hi => ?_⟩
    rw [hr] at hi
    simp only [List.mem_cons, List.not_mem_nil, or_false] at hi
    rcases hi with rfl | rfl
    · exact step0 _ _ _ _ n02
    · exact step1 _ _ _ _ n12
  have n_ : wpAnyIn (Fence.wide.inRound l') 0 Tryz.prog .any abvOps Q 6 #[false, false, false, false, false, false] (A t undef undef undef undef undef undef) w.drew := by
    have hr : Region.ready .any abvOps #[false, false, false, false, false, false] = [0, 1, 2] := by kernel_rfl
    refine ⟨(fun h => by rw [hr] at h; cases h), fun i hi => ?_⟩
    rw [hr] at hi
    simp only [List.mem_cons, List.not_mem_nil, or_false] at hi
    rcases hi with rfl | rfl | rfl
    · exact step0 _ _ _ _ n0
    · exact step1 _ _ _ _ n1
    · exact step2 _ _ _ _ n2
  exact n_

end Go.Proofs.YtkcapiblicfboaaGreatDoor
