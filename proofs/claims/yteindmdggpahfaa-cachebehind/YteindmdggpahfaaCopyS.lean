/- A request that lies in blocks of a given set; what stands while a request is copied; an append as a step of a drawn region. No Go function is walked here. -/
import Derived.Test.YteindmdggpahfaaCopyL
import Derived.Test.YteindmdggpahfaaStor
import Derived.Deep.RegionHeld2
namespace Go.Proofs.Yteindmdggpahfaa
open Go.RowKit
set_option maxRecDepth 8000

theorem SeesR.kept {w w' : World} {S : Nat → Prop} {v : Value} {z : Nat} {cs : List (List Value)} (h : SeesR w v z cs) (hk : Kept w w' S) (hn : ∀ k, v.ownBlock = some k → ¬ S k) : SeesR w' v z cs := by
  obtain ⟨ao, cap, rfl, h1, h2, h0, h3⟩ := h
  refine ⟨ao, cap, rfl, h1, h2, h0, ?_⟩
  rcases h3 with h3 | ⟨b, off, rfl, h3⟩
  · exact .inl h3
  · exact .inr ⟨b, off, rfl, fun i hi j hj => hk.cell (h3 i hi j hj) (hn b rfl)⟩

/-- The cells cs are those of the request r, and all its lists lie in blocks of F. -/
inductive RqIn (w : World) (F : Nat → Prop) : List Value → Rq → Prop where
  | mk (f : RqF) (n : Nat) (ops : Fin n → Rq) (dv av wv ov : Value) (oc : Fin n → List Value)
      (hd : Sees w dv f.data) (ha : SeesR w av 3 (f.acl.map EnD.cells)) (hw : SeesR w wv 2 (f.who.map IdD.cells)) (ho : SeesR w ov 11 (List.ofFn oc))
      (fd : ∀ k, dv.ownBlock = some k → F k) (fa : ∀ k, av.ownBlock = some k → F k) (fw : ∀ k, wv.ownBlock = some k → F k) (fo : ∀ k, ov.ownBlock = some k → F k)
      (hs : ∀ i : Fin n, RqIn w F (oc i) (ops i)) : RqIn w F (rqCells f dv av wv ov) (.mk f n ops)

theorem RqIn.sees {w : World} {F : Nat → Prop} {cs : List Value} {r : Rq} (h : RqIn w F cs r) : SeesRq w cs r := by
  induction h with
  | mk f n ops dv av wv ov oc hd ha hw ho _ _ _ _ _ ih => exact .mk f n ops dv av wv ov oc hd ha hw ho ih

theorem RqIn.kept {w w' : World} {S F F' : Nat → Prop} (hk : Kept w w' S) (hF : ∀ k, F k → ¬ S k ∧ F' k) {cs : List Value} {r : Rq} (h : RqIn w F cs r) : RqIn w' F' cs r := by
  induction h with
  | mk f n ops dv av wv ov oc hd ha hw ho fd fa fw fo _ ih =>
    exact .mk f n ops dv av wv ov oc (hd.kept hk (fun k h => (hF k (fd k h)).1)) (ha.kept hk (fun k h => (hF k (fa k h)).1)) (hw.kept hk (fun k h => (hF k (fw k h)).1)) (ho.kept hk (fun k h => (hF k (fo k h)).1))
      (fun k h => (hF k (fd k h)).2) (fun k h => (hF k (fa k h)).2) (fun k h => (hF k (fw k h)).2) (fun k h => (hF k (fo k h)).2) ih

abbrev rqZ : Array Value := #[.int .i8 0, .string ⟨#[]⟩, .slice none 0 0, .slice none 0 0, .int .i32 0, .bool false, .bool false, .int .i64 0, .int .i32 0, .slice none 0 0, .slice none 0 0]

/-- What stands while a request is copied: the one that came in at N, the result's variable, the copy. -/
structure CS (w W : World) (cs ds : Array Value) : Prop where
  r : W.heap[w.heap.size]? = some (.cells cs 41 (0, 0))
  o : W.heap[w.heap.size + 1]? = some (.cells rqZ 41 (0, 0))
  c : W.heap[w.heap.size + 2]? = some (.cells ds 41 (0, 0))
  bel : Below w.heap.size w W

section
variable {w W W' : World} {cs ds : Array Value}
theorem CS.kept {S : Nat → Prop} (h : CS w W cs ds) (hk : Kept W W' S) (hS : ∀ k, S k → w.heap.size + 3 ≤ k) : CS w W' cs ds := by
  refine ⟨hk.heap h.r (fun e => by have := hS _ e; omega), hk.heap h.o (fun e => by have := hS _ e; omega), hk.heap h.c (fun e => by have := hS _ e; omega), h.bel.trans (hk.below h.bel.size (fun k e => by have := hS _ e; omega))⟩
theorem CS.lt (h : CS w W cs ds) : w.heap.size + 3 ≤ W.heap.size := lt_of_block h.c
theorem CS.later (h : CS w W cs ds) (hb : Below W.heap.size W W') : CS w W' cs ds := h.kept (Below.kept hb) (fun k hk => by have := h.lt; omega)
theorem CS.set (h : CS w W cs ds) (j : Nat) (u : Value) : CS w (W.setCell ⟨w.heap.size + 2, j, none⟩ u) cs (ds.setIfInBounds j u) := by
  have hk : Kept W (W.setCell ⟨w.heap.size + 2, j, none⟩ u) (fun k => k = w.heap.size + 2) := (Kept.refl W (fun k => k = w.heap.size + 2)).setCell _ _ (fun _ => rfl)
  refine ⟨hk.heap h.r (by omega), hk.heap h.o (by omega), heap_setR _ h.c, h.bel.trans (hk.below h.bel.size (fun k e => by omega))⟩
theorem CS.rc (h : CS w W cs ds) (j : Nat) : W.cell? ⟨w.heap.size, j, none⟩ = cs[j]? := cell_of_row _ _ _ _ _ _ h.r
theorem CS.cc (h : CS w W cs ds) (j : Nat) : W.cell? ⟨w.heap.size + 2, j, none⟩ = ds[j]? := cell_of_row _ _ _ _ _ _ h.c
theorem CS.cf (h : CS w W cs ds) (j : Nat) : W.frozen? ⟨w.heap.size + 2, j, none⟩ = false := frozen_of_row _ _ _ _ _ h.c
end

theorem Try.infoRq : (Try.prog.info? 41).map (fun i => (i.zero, i.size, i.bytes)) = some (some (.agg rqZ), 11, 144) := by kernel_rfl

theorem step_append_at {P : Program} {ops : Array Oper} {o : Oper} {a : Act} {w : World} {K : Act → World → Prop} {Q : Exit → Act → World → Prop} {E : Prop}
    (hg : o.guard = none) (s x : Operand) (t : TypeId) (hop : o.op = Op.call { callee := Callee.builtin Builtin.append, args := #[s, x], argTypes := #[t, t] })
    (base : Nat) (e : TypeId) (i : TypeInfo) (z : Value) (size bytes : Nat) (ht : P.underlying t = some (.slice e)) (hi : P.info? e = some i) (hz : i.zero = some z)
    (hsize : i.size = size) (hby : i.bytes = bytes) (hzs : z.cells.size = size) (hsz : 0 < size)
    (v : Value) (n : Nat) (xs : List Value) (hs : a.eval s = v) (hown : w.ownsRow base e size v n xs)
    (ad : Addr) (m c : Nat) (news : List Value) (hx : a.eval x = .slice (some ad) m c) (hl : news.length = m * size) (hnews : ∀ j u, news[j]? = some u → w.cell? (ad.add j) = some u) (h1 : ∀ u ∈ news, u.oneCell' = true)
    (h63 : n + m ≤ maxLen) (hbytes : (n + m) * bytes ≤ 140737488355328) (hbase : base ≤ w.heap.size)
    (h : ∀ v' w', w'.ownsRow base e size v' (n + m) (xs ++ news) → w.grownBy w' v.ownBlock → (v'.ownBlock = v.ownBlock ∨ v'.ownBlock = some w.heap.size) → K (a.put o.dst v') w') :
    if Region.wanted o (yielded ops a.tmps) = true then Oper.wp P o a w K Q else E := by
  have hw : Region.wanted o (yielded ops a.tmps) = true := by simp [Region.wanted, hg]
  rw [if_pos hw]
  obtain ⟨v', w', hr, h2, h3, _, h5⟩ := run_append_own_at (P := P) w base t o.type e i z size bytes ht hi hz hsize hby hzs hsz v n xs hown ad m c news hl hnews h1 h63 hbytes hbase
  unfold Oper.wp execOp
  simp only [hop, resolve, invoke, builtin, Sem.run_bind, Sem.run_pure, Result.andThen_ok, List.map_toArray, List.map_cons, List.map_nil, hs, hx, hr]
  exact h v' w' h2 h3 h5
end Go.Proofs.Yteindmdggpahfaa
