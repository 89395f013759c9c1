/- A range over a function, where the function hands out memory of its own making: what an iterator's contract says (SeqR), and the law for the loop over it (range_R). The iterator has blocks of its own (D; D0 of them it only reads); a round keeps these; whatever the caller says of its own blocks stays. No Go function is walked here. -/
import Derived.Test.YtkcapiblicfboaaGreatDoorMemJ
import Derived.RangeFuncNested
import Derived.RangeFuncBound
import Derived.RangeFuncCalls
import Derived.RangeFuncLeaves
import Derived.Shelf.Abstract
import Derived.Shelf.RegionOpen
import Derived.WalkKit
import Derived.OwnWalkIn
import Derived.TacticsInMore
import Derived.LoopNIn
import Derived.LoopIn
namespace Go.Proofs.YtkcapiblicfboaaGreatDoor
open Go.RowKit Go.Shelf
set_option maxRecDepth 8000

/-- A set of blocks. -/
abbrev Blocks := Nat → Prop

/-- What is said with the iterator's blocks D stays, when these change (but D0), and when memory is laid, which may become the iterator's. -/
def Stays {β : Type} (D0 : Blocks) (I : Blocks → β → World → Prop) : Prop :=
  ∀ D D' s W W', I D s W → Kept W W' (fun k => D k ∧ ¬ D0 k) → (∀ k, D' k → D k ∨ (W.heap.size ≤ k ∧ k < W'.heap.size)) → I D' s W'

/-- The contract of an iterator: R: what it says of x, handed over in W1 (Wb: a world ahead of it, in which what came before stands); S, Sp: what has come when it ends by itself, when a round has said no. -/
def SeqR {α : Type} (P : Program) (g : Nat) (lb : Array Value) (encs : α → Array Value) (R : List α → α → World → World → Prop) (S Sp : List α → Prop) (D0 : Blocks) (w : World) : Prop :=
  ∀ (l : Nat) (J Jx : Blocks → List α → World → Prop) (W : World), (∀ k, D0 k → W.heap[k]? = w.heap[k]?) → w.heap.size ≤ W.heap.size → Stays D0 J → Stays D0 Jx →
    (∀ D pre x Wb W1, (∀ k, D0 k → D k) → J D pre Wb → Kept Wb W1 (fun k => D k ∧ ¬ D0 k) → R pre x Wb W1 →
      YieldAt Fence.wide 0 P l (encs x) W1 fun e W' => Kept W1 W' (fun k => ¬ D k) ∧ ((e = .returned (.bool true) ∧ J D (pre ++ [x]) W') ∨ (e = .returned (.bool false) ∧ Jx D (pre ++ [x]) W'))) →
    J D0 [] W →
    Calls P g (#[.func (.yield l) #[] #[]] ++ lb) W fun e W' => (∃ v, e = .returned v) ∧ ∃ D, (∃ xs, S xs ∧ J D xs W') ∨ (∃ pre, Sp pre ∧ Jx D pre W')

theorem kept_putObj (W : World) (l : Nat) (o : Obj) : Kept W (W.putObj l o) (· = l) :=
  ⟨rfl, rfl, rfl, by simp, fun k _ hn => World.putObj_heap_other hn⟩

/-- How the body of a round may be left: the iterator's blocks D as they were. -/
def postR {α : Type} (D : Blocks) (I : Blocks → List α → World → Prop) (Ix : Code → Blocks → List α → World → Prop) (xs : List α) (W : World) : Exit → Act → World → Prop
  | .normal, _, W' => Kept W W' (fun k => ¬ D k) ∧ I D xs W'
  | .ret, _, W' => Kept W W' (fun k => ¬ D k) ∧ Ix .ret D xs W'
  | .exit id, _, W' => Kept W W' (fun k => ¬ D k) ∧ Ix (.exit id) D xs W'
  | .goto t, _, W' => Kept W W' (fun k => ¬ D k) ∧ Ix (.goto t) D xs W'
  | .panic _, _, _ => False
  | .outgrown, _, _ => False

/-- D and the two blocks of a loop. -/
def plus (D : Blocks) (l d : Nat) : Blocks := fun k => D k ∨ k = l ∨ k = d

theorem range_R {P : Program} {α : Type} {g : Operand} {ps : Array Tmp} {assign body : Code} {Q : Exit → Act → World → Prop} {a : Act} {w : World}
    {gf : Nat} {lb : Array Value} (hg : a.eval g = .func (.func gf) #[] lb) (eg : ∀ args w, (callFunc gf args).run P w = .ok (.enter gf args) w)
    {encs : α → Array Value} {R : List α → α → World → World → Prop} {S Sp : List α → Prop} {D0 : Blocks} (hseq : SeqR P gf lb encs R S Sp D0 w) (hps : ∀ x, (encs x).size = ps.size)
    (hD0 : ∀ k, D0 k → k < w.heap.size) (hR : ∀ pre x Wb W l r o, R pre x Wb W → W.heap[l]? = some (.loop r) → R pre x Wb (W.putObj l o))
    (I : Blocks → List α → World → Prop) (Ix : Code → Blocks → List α → World → Prop) (hI : Stays D0 I) (hIx : ∀ c, Stays D0 (Ix c)) (h0 : I D0 [] w) (a₁ : α → Act)
    (hassign : ∀ (l : Nat) (x : α) (W : World) (K : Act → World → Prop), K (a₁ x) W →
      assign.wpIn (Fence.wide.inRound l) 0 P (Exit.then K (fun _ _ _ => False)) { tmps := (ps.zip (encs x)).foldl (fun t (p, v) => t.setIfInBounds p v) a.tmps, defers := [] } W)
    (hbody : ∀ (l : Nat) (D : Blocks) (pre : List α) (x : α) (Wb W : World), w.heap.size ≤ l → (∃ r, W.heap[l]? = some (.loop r)) → D l → (∀ k, D0 k → D k) → I D pre Wb → Kept Wb W (fun k => D k ∧ ¬ D0 k) → R pre x Wb W →
      body.wpIn (Fence.wide.inRound l) 0 P (postR D I Ix (pre ++ [x]) W) (a₁ x) W)
    (hdone : ∀ (d : Nat) (D : Blocks) (xs : List α) (W : World), w.heap.size ≤ d → D d → S xs → I D xs W → W.heap[d]? = some (.deferred (some [])) → Q .normal { a with defers := { target := .collected d, args := #[] } :: a.defers } W)
    (hstop : ∀ (d : Nat) (D : Blocks) (c : Code) (pre : List α) (W : World), w.heap.size ≤ d → D d → Sp pre → Ix c D pre W → W.heap[d]? = some (.deferred (some [])) → c.wpIn Fence.wide 0 P Q { a with defers := { target := .collected d, args := #[] } :: a.defers } W) :
    (Code.rangeFunc g ps assign body).wpIn Fence.wide 0 P Q a w := by
  refine wpIn_rangeFunc ?_
  intro fn hfn
  obtain ⟨rc, hrc⟩ : ∃ rc : LoopState → Option Code → Loop, rc = fun st pe => { state := st, pending := pe, fn, tmps := a.tmps, params := ps, assign, body, defers := w.heap.size } := ⟨_, rfl⟩
  obtain ⟨W1, hW1⟩ : ∃ W1, (w.alloc (.deferred (some []))).alloc (.loop (rc .ready none)) = W1 := ⟨_, rfl⟩
  obtain ⟨l, hl⟩ : ∃ l, l = w.heap.size + 1 := ⟨_, rfl⟩
  obtain ⟨d, hd⟩ : ∃ d, d = w.heap.size := ⟨_, rfl⟩
  have hL1 : W1.heap[l]? = some (.loop (rc .ready none)) := by
    rw [← hW1, hl]; have := World.alloc_heap_new (w.alloc (.deferred (some []))) (.loop (rc .ready none)); rwa [World.size_alloc] at this
  have hK1 : W1.heap[d]? = some (.deferred (some [])) := by
    rw [← hW1, hd]; exact (Below.heap_alloc _ _ _ (by simp)).trans (World.alloc_heap_new w _)
  have hz1 : W1.heap.size = w.heap.size + 2 := by rw [← hW1]; simp
  have hk1 : Kept w W1 (fun _ => False) := by rw [← hW1]; exact ((Kept.refl w _).alloc _).alloc _
  have n0l : ¬ D0 l := fun h => by have := hD0 l h; omega
  have n0d : ¬ D0 d := fun h => by have := hD0 d h; omega
  have hI1 : I (plus D0 l d) [] W1 := hI D0 _ _ _ _ h0 (hk1.mono (fun _ _ h => h.elim)) (fun k hk => by
    rcases hk with hk | rfl | rfl
    · exact .inl hk
    · exact .inr ⟨by omega, by omega⟩
    · exact .inr ⟨by omega, by omega⟩)
  have hst : ∀ (X : Blocks → List α → World → Prop) (o : Obj), Stays D0 X → Stays D0 (fun D pre W => X (plus D l d) pre W ∧ ¬ D l ∧ ¬ D d ∧ W.heap[l]? = some o ∧ W.heap[d]? = some (.deferred (some []))) := by
    rintro X o hX D D' s W W' ⟨hx, h1, h2, h3, h4⟩ hk hD
    have l3 := lt_of_block h3
    have l4 := lt_of_block h4
    refine ⟨hX _ _ _ _ _ hx (hk.mono (fun k _ h => ⟨.inl h.1, h.2⟩)) (fun k hk' => ?_), fun h => ?_, fun h => ?_, hk.heap h3 (fun h => h1 h.1), hk.heap h4 (fun h => h2 h.1)⟩
    · rcases hk' with hk' | rfl | rfl
      · rcases hD k hk' with h | h
        · exact .inl (.inl h)
        · exact .inr h
      · exact .inl (.inr (.inl rfl))
      · exact .inl (.inr (.inr rfl))
    · rcases hD l h with h | h
      · exact h1 h
      · omega
    · rcases hD d h with h | h
      · exact h2 h
      · omega
  refine ⟨l, [{ target := .collected d, args := #[] }], W1, { target := .fn (.func gf) lb, args := #[.func (.yield l) #[] #[]] }, W1, gf,
    #[.func (.yield l) #[] #[]] ++ lb, W1, ?_, ?_, fun _ _ => trivial, ?_, fun h => by simp [Fence.wide] at h, ?_⟩
  · rw [← hW1, hrc, hl, hd]; exact run_enterLoop_outer _ _ _ _ _
  · simp only [resolve, hg]
    simp [go_sem]
  · simp [invoke, go_sem, eg]
  · refine callsIn_wide.2 ((hseq l
      (fun D pre W => I (plus D l d) pre W ∧ ¬ D l ∧ ¬ D d ∧ W.heap[l]? = some (.loop (rc .ready none)) ∧ W.heap[d]? = some (.deferred (some [])))
      (fun D pre W => ∃ c, Ix c (plus D l d) pre W ∧ ¬ D l ∧ ¬ D d ∧ W.heap[l]? = some (.loop (rc .done (some c))) ∧ W.heap[d]? = some (.deferred (some [])))
      W1 (fun k hk => hk1.block k (hD0 k hk) (fun h => h)) (by omega) (hst I _ hI)
      (fun D D' s W W' ⟨c, hc⟩ hk hD => ⟨c, hst (Ix c) _ (hIx c) D D' s W W' hc hk hD⟩)
      ?_ ⟨hI1, n0l, n0d, hL1, hK1⟩).mono ?_)
    · rintro D pre x Wb Wx hsub ⟨hi, nl, nd, hlb, hdb⟩ hkb hr
      have hlx : Wx.heap[l]? = some (.loop (rc .ready none)) := hkb.heap hlb (fun h => nl h.1)
      have hdx : Wx.heap[d]? = some (.deferred (some [])) := hkb.heap hdb (fun h => nd h.1)
      have hy := run_yield (P := P) (args := encs x) hlx (by rw [hrc]; exact hps x)
      rw [hrc] at hy
      refine ⟨fn, _, assign, body, hy, roundIn_of_wpIn hfn (hassign _ x Wx _ ⟨_, run_beginRound hlx (by rw [hrc]), ?_⟩)⟩
      obtain ⟨bz, hbz⟩ : ∃ bz, bz = ({ rc .ready none with state := .busy } : Loop) := ⟨_, rfl⟩
      rw [← hbz]
      have hlt : l < Wx.heap.size := lt_of_block hlx
      have h2l : (Wx.putObj l (.loop bz)).heap[l]? = some (.loop bz) := World.putObj_heap_same hlt
      have hne : d ≠ l := by omega
      have h2d : (Wx.putObj l (.loop bz)).heap[d]? = some (.deferred (some [])) := (World.putObj_heap_other hne).trans hdx
      have kb2 : Kept Wb (Wx.putObj l (.loop bz)) (fun k => plus D l d k ∧ ¬ D0 k) := (hkb.mono (fun k _ h => ⟨.inl h.1, h.2⟩)).trans (kept_putObj Wx l _) (fun k _ e => by subst e; exact ⟨.inr (.inl rfl), n0l⟩)
      refine wpIn_mono (hbody l (plus D l d) pre x Wb _ (by omega) ⟨_, h2l⟩ (.inr (.inl rfl)) (fun k hk => .inl (hsub k hk)) hi kb2 (hR _ _ _ _ _ _ _ hr hlx)) ?_
      have fin : ∀ (jump : Option Code) (W3 : World), Kept (Wx.putObj l (.loop bz)) W3 (fun k => ¬ plus D l d k) →
          (Instr.endRound l jump).run P W3 = .ok (.bool jump.isNone) (W3.putObj l (.loop (rc (if jump.isNone then .ready else .done) jump))) ∧
          Kept Wx (W3.putObj l (.loop (rc (if jump.isNone then .ready else .done) jump))) (fun k => ¬ D k) ∧
          (W3.putObj l (.loop (rc (if jump.isNone then .ready else .done) jump))).heap[l]? = some (.loop (rc (if jump.isNone then .ready else .done) jump)) ∧
          (W3.putObj l (.loop (rc (if jump.isNone then .ready else .done) jump))).heap[d]? = some (.deferred (some [])) := fun jump W3 k3 => by
        have hl3 : W3.heap[l]? = some (.loop bz) := k3.heap h2l (fun h => h (.inr (.inl rfl)))
        have hd3 : W3.heap[d]? = some (.deferred (some [])) := k3.heap h2d (fun h => h (.inr (.inr rfl)))
        have he := run_endRound (P := P) jump hl3
        refine ⟨?_, ?_, World.putObj_heap_same (lt_of_block hl3), (World.putObj_heap_other hne).trans hd3⟩
        · rw [he, hbz, hrc]
        · refine (((kept_putObj Wx l (.loop bz)).mono (S' := fun k => ¬ D k) (fun k _ e => by subst e; exact nl)).trans k3 (fun k _ h hD => h (.inl hD))).trans (kept_putObj W3 l _) (fun k _ e => by subst e; exact nl)
      have stay : ∀ (X : Blocks → List α → World → Prop) (s : List α) (W3 : World) (o : Obj), Stays D0 X → X (plus D l d) s W3 → X (plus D l d) s (W3.putObj l o) := fun X s W3 o hX hx =>
        hX _ _ _ _ _ hx ((kept_putObj W3 l o).mono (fun k _ e => by subst e; exact ⟨.inr (.inl rfl), n0l⟩)) (fun k hk => .inl hk)
      rintro e a3 W3 hp
      cases e with
      | normal =>
        obtain ⟨k3, hi3⟩ := hp
        obtain ⟨h1, h2, h3, h4⟩ := fin none W3 k3
        exact ⟨_, _, h1, h2, .inl ⟨rfl, stay I _ _ _ hI hi3, nl, nd, h3, h4⟩⟩
      | ret =>
        obtain ⟨k3, hi3⟩ := hp
        obtain ⟨h1, h2, h3, h4⟩ := fin (some .ret) W3 k3
        exact ⟨_, _, h1, h2, .inr ⟨rfl, _, stay (Ix .ret) _ _ _ (hIx _) hi3, nl, nd, h3, h4⟩⟩
      | exit id =>
        obtain ⟨k3, hi3⟩ := hp
        obtain ⟨h1, h2, h3, h4⟩ := fin (some (.exit id)) W3 k3
        exact ⟨_, _, h1, h2, .inr ⟨rfl, _, stay (Ix (.exit id)) _ _ _ (hIx _) hi3, nl, nd, h3, h4⟩⟩
      | goto t =>
        obtain ⟨k3, hi3⟩ := hp
        obtain ⟨h1, h2, h3, h4⟩ := fin (some (.goto t)) W3 k3
        exact ⟨_, _, h1, h2, .inr ⟨rfl, _, stay (Ix (.goto t)) _ _ _ (hIx _) hi3, nl, nd, h3, h4⟩⟩
      | panic ch => exact hp.elim
      | outgrown => exact hp.elim
    · have stay : ∀ (X : Blocks → List α → World → Prop) (D : Blocks) (s : List α) (W3 : World) (o : Obj), Stays D0 X → X (plus D l d) s W3 → X (plus D l d) s (W3.putObj l o) := fun X D s W3 o hX hx =>
        hX _ _ _ _ _ hx ((kept_putObj W3 l o).mono (fun k _ e => by subst e; exact ⟨.inr (.inl rfl), n0l⟩)) (fun k hk => .inl hk)
      have hne : d ≠ l := by omega
      rintro e W2 ⟨⟨v, rfl⟩, D, (⟨xs, hS, hi, _, _, hl2, hd2⟩ | ⟨pre, hSp, c, hi, _, _, hl2, hd2⟩)⟩
      · exact ⟨none, _, by have := run_endLoop (P := P) hl2 (by rw [hrc]; simp); rw [hrc] at this; exact this, hdone d (plus D l d) xs _ (by omega) (.inr (.inr rfl)) hS (stay I _ _ _ _ hI hi) ((World.putObj_heap_other hne).trans hd2)⟩
      · exact ⟨some c, _, by have := run_endLoop (P := P) hl2 (by rw [hrc]; simp); rw [hrc] at this; exact this, hstop d (plus D l d) c pre _ (by omega) (.inr (.inr rfl)) hSp (stay (Ix c) _ _ _ _ (hIx c) hi) ((World.putObj_heap_other hne).trans hd2)⟩

/-- An append whose run is known, in a walk inside a fence. -/
theorem wpListIn_append_run {F : Fence} {n : Nat} {P : Program} {w : World} {ops : Array Oper} {rest : List Oper} {o : Oper} {a : Act} {Q : Exit → Act → World → Prop}
    (hg : o.guard = none) (s x : Operand) (t : TypeId) (hop : o.op = Op.call { callee := Callee.builtin Builtin.append, args := #[s, x], argTypes := #[t, t] })
    {v u v' : Value} {w' : World} (hs : a.eval s = v) (hx : a.eval x = u) (hrun : (Builtin.append_ #[t, t] o.type #[v, u]).run P w = .ok v' w') (hK : wpListIn F n P ops Q rest (a.put o.dst v') w') :
    wpListIn F n P ops Q (o :: rest) a w := by
  refine wpListIn_plain hg fun K hK' => ?_
  unfold Oper.wpIn
  refine ⟨?_, ?_⟩
  · simp [Oper.about, hop, resolve, Target.leads, Sem.run_pure]
  · rw [Oper.semAt_plain F _ _ (by rw [hop]; intro c hc'; cases hc')]
    simp [execOp, hop, resolve, invoke, builtin, hs, hx, hrun, Result.andThen]
    exact hK' _ _ hK

end Go.Proofs.YtkcapiblicfboaaGreatDoor
