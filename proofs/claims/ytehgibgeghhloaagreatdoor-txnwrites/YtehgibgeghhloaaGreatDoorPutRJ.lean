/- A row of cells that is stored over, cell by cell; a result that lies in a variable. No Go function is walked here. -/
import Derived.Test.YtehgibgeghhloaaGreatDoorProg
import Derived.Test.YtehgibgeghhloaaGreatDoorTurnJ
import Derived.Test.YtehgibgeghhloaaGreatDoorCopyLJ
import Derived.Deep.RegionHeld2
import Derived.Test.YtehgibgeghhloaaGreatDoorPutKJ
namespace Go.Proofs.YtehgibgeghhloaaGreatDoor
open Go.RowKit
set_option maxRecDepth 8000

theorem heap_setR {w : World} {b i : Nat} {cs : Array Value} {t : TypeId} {fr : Nat × Nat} (c : Value) (h : w.heap[b]? = some (.cells cs t fr)) : (w.setCell ⟨b, i, none⟩ c).heap[b]? = some (.cells (cs.setIfInBounds i c) t fr) := by
  rw [setCell_eq_setRow w b i cs t fr c h]
  exact setRow_heap w b cs _ t fr h

theorem stored11 {U : World} {b : Nat} {t : TypeId} {d0 d1 d2 d3 d4 d5 d6 d7 d8 d9 d10 : Value} (c0 c1 c2 c3 c4 c5 c6 c7 c8 c9 c10 : Value) (hbox : U.heap[b]? = some (.cells #[d0, d1, d2, d3, d4, d5, d6, d7, d8, d9, d10] t (0, 0))) :
    (((((((((((U.setCell ⟨b, 0, none⟩ c0).setCell ⟨b, 1, none⟩ c1).setCell ⟨b, 2, none⟩ c2).setCell ⟨b, 3, none⟩ c3).setCell ⟨b, 4, none⟩ c4).setCell ⟨b, 5, none⟩ c5).setCell ⟨b, 6, none⟩ c6).setCell ⟨b, 7, none⟩ c7).setCell ⟨b, 8, none⟩ c8).setCell ⟨b, 9, none⟩ c9).setCell ⟨b, 10, none⟩ c10).heap[b]? = some (.cells #[c0, c1, c2, c3, c4, c5, c6, c7, c8, c9, c10] t (0, 0)) ∧ Kept U (((((((((((U.setCell ⟨b, 0, none⟩ c0).setCell ⟨b, 1, none⟩ c1).setCell ⟨b, 2, none⟩ c2).setCell ⟨b, 3, none⟩ c3).setCell ⟨b, 4, none⟩ c4).setCell ⟨b, 5, none⟩ c5).setCell ⟨b, 6, none⟩ c6).setCell ⟨b, 7, none⟩ c7).setCell ⟨b, 8, none⟩ c8).setCell ⟨b, 9, none⟩ c9).setCell ⟨b, 10, none⟩ c10) (fun k => k = b) := by
  refine ⟨?_, ?_⟩
  · have hrow := (heap_setR (i := 10) c10 (heap_setR (i := 9) c9 (heap_setR (i := 8) c8 (heap_setR (i := 7) c7 (heap_setR (i := 6) c6 (heap_setR (i := 5) c5 (heap_setR (i := 4) c4 (heap_setR (i := 3) c3 (heap_setR (i := 2) c2 (heap_setR (i := 1) c1 (heap_setR (i := 0) c0 hbox)))))))))))
    have e : (((((((((((#[d0, d1, d2, d3, d4, d5, d6, d7, d8, d9, d10].setIfInBounds 0 c0).setIfInBounds 1 c1).setIfInBounds 2 c2).setIfInBounds 3 c3).setIfInBounds 4 c4).setIfInBounds 5 c5).setIfInBounds 6 c6).setIfInBounds 7 c7).setIfInBounds 8 c8).setIfInBounds 9 c9).setIfInBounds 10 c10) = #[c0, c1, c2, c3, c4, c5, c6, c7, c8, c9, c10] := by simp
    rw [e] at hrow
    exact hrow
  · exact (Kept.setCell (Kept.setCell (Kept.setCell (Kept.setCell (Kept.setCell (Kept.setCell (Kept.setCell (Kept.setCell (Kept.setCell (Kept.setCell (Kept.setCell (Kept.refl U (fun k => k = b)) ⟨b, 0, none⟩ c0 (fun _ => rfl)) ⟨b, 1, none⟩ c1 (fun _ => rfl)) ⟨b, 2, none⟩ c2 (fun _ => rfl)) ⟨b, 3, none⟩ c3 (fun _ => rfl)) ⟨b, 4, none⟩ c4 (fun _ => rfl)) ⟨b, 5, none⟩ c5 (fun _ => rfl)) ⟨b, 6, none⟩ c6 (fun _ => rfl)) ⟨b, 7, none⟩ c7 (fun _ => rfl)) ⟨b, 8, none⟩ c8 (fun _ => rfl)) ⟨b, 9, none⟩ c9 (fun _ => rfl)) ⟨b, 10, none⟩ c10 (fun _ => rfl))

theorem stored16 {U : World} {b : Nat} {t : TypeId} {d0 d1 d2 d3 d4 d5 d6 d7 d8 d9 d10 d11 d12 d13 d14 d15 : Value} (c0 c1 c2 c3 c4 c5 c6 c7 c8 c9 c10 c11 c12 c13 c14 c15 : Value) (hbox : U.heap[b]? = some (.cells #[d0, d1, d2, d3, d4, d5, d6, d7, d8, d9, d10, d11, d12, d13, d14, d15] t (0, 0))) :
    ((((((((((((((((U.setCell ⟨b, 0, none⟩ c0).setCell ⟨b, 1, none⟩ c1).setCell ⟨b, 2, none⟩ c2).setCell ⟨b, 3, none⟩ c3).setCell ⟨b, 4, none⟩ c4).setCell ⟨b, 5, none⟩ c5).setCell ⟨b, 6, none⟩ c6).setCell ⟨b, 7, none⟩ c7).setCell ⟨b, 8, none⟩ c8).setCell ⟨b, 9, none⟩ c9).setCell ⟨b, 10, none⟩ c10).setCell ⟨b, 11, none⟩ c11).setCell ⟨b, 12, none⟩ c12).setCell ⟨b, 13, none⟩ c13).setCell ⟨b, 14, none⟩ c14).setCell ⟨b, 15, none⟩ c15).heap[b]? = some (.cells #[c0, c1, c2, c3, c4, c5, c6, c7, c8, c9, c10, c11, c12, c13, c14, c15] t (0, 0)) ∧ Kept U ((((((((((((((((U.setCell ⟨b, 0, none⟩ c0).setCell ⟨b, 1, none⟩ c1).setCell ⟨b, 2, none⟩ c2).setCell ⟨b, 3, none⟩ c3).setCell ⟨b, 4, none⟩ c4).setCell ⟨b, 5, none⟩ c5).setCell ⟨b, 6, none⟩ c6).setCell ⟨b, 7, none⟩ c7).setCell ⟨b, 8, none⟩ c8).setCell ⟨b, 9, none⟩ c9).setCell ⟨b, 10, none⟩ c10).setCell ⟨b, 11, none⟩ c11).setCell ⟨b, 12, none⟩ c12).setCell ⟨b, 13, none⟩ c13).setCell ⟨b, 14, none⟩ c14).setCell ⟨b, 15, none⟩ c15) (fun k => k = b) := by
  refine ⟨?_, ?_⟩
  · have hrow := (heap_setR (i := 15) c15 (heap_setR (i := 14) c14 (heap_setR (i := 13) c13 (heap_setR (i := 12) c12 (heap_setR (i := 11) c11 (heap_setR (i := 10) c10 (heap_setR (i := 9) c9 (heap_setR (i := 8) c8 (heap_setR (i := 7) c7 (heap_setR (i := 6) c6 (heap_setR (i := 5) c5 (heap_setR (i := 4) c4 (heap_setR (i := 3) c3 (heap_setR (i := 2) c2 (heap_setR (i := 1) c1 (heap_setR (i := 0) c0 hbox))))))))))))))))
    have e : ((((((((((((((((#[d0, d1, d2, d3, d4, d5, d6, d7, d8, d9, d10, d11, d12, d13, d14, d15].setIfInBounds 0 c0).setIfInBounds 1 c1).setIfInBounds 2 c2).setIfInBounds 3 c3).setIfInBounds 4 c4).setIfInBounds 5 c5).setIfInBounds 6 c6).setIfInBounds 7 c7).setIfInBounds 8 c8).setIfInBounds 9 c9).setIfInBounds 10 c10).setIfInBounds 11 c11).setIfInBounds 12 c12).setIfInBounds 13 c13).setIfInBounds 14 c14).setIfInBounds 15 c15) = #[c0, c1, c2, c3, c4, c5, c6, c7, c8, c9, c10, c11, c12, c13, c14, c15] := by simp
    rw [e] at hrow
    exact hrow
  · exact (Kept.setCell (Kept.setCell (Kept.setCell (Kept.setCell (Kept.setCell (Kept.setCell (Kept.setCell (Kept.setCell (Kept.setCell (Kept.setCell (Kept.setCell (Kept.setCell (Kept.setCell (Kept.setCell (Kept.setCell (Kept.setCell (Kept.refl U (fun k => k = b)) ⟨b, 0, none⟩ c0 (fun _ => rfl)) ⟨b, 1, none⟩ c1 (fun _ => rfl)) ⟨b, 2, none⟩ c2 (fun _ => rfl)) ⟨b, 3, none⟩ c3 (fun _ => rfl)) ⟨b, 4, none⟩ c4 (fun _ => rfl)) ⟨b, 5, none⟩ c5 (fun _ => rfl)) ⟨b, 6, none⟩ c6 (fun _ => rfl)) ⟨b, 7, none⟩ c7 (fun _ => rfl)) ⟨b, 8, none⟩ c8 (fun _ => rfl)) ⟨b, 9, none⟩ c9 (fun _ => rfl)) ⟨b, 10, none⟩ c10 (fun _ => rfl)) ⟨b, 11, none⟩ c11 (fun _ => rfl)) ⟨b, 12, none⟩ c12 (fun _ => rfl)) ⟨b, 13, none⟩ c13 (fun _ => rfl)) ⟨b, 14, none⟩ c14 (fun _ => rfl)) ⟨b, 15, none⟩ c15 (fun _ => rfl))

theorem resCell1 {fn : Func} {p : Tmp} {ty : TypeId} (h : fn.results = #[.cell p ty]) (tmps : Array Value) (P : Program) (w : World) :
    (results fn tmps).run P w = ((asAddr (tmps.getD p undef)).run P w).andThen fun a w₁ => (loadVar ty a).run P w₁ := by
  simp only [results, h]
  simp [Sem.run_bind, Result.andThen]

theorem rq_size : (Tryz.prog.info? 33).map (·.size) = some 11 := by kernel_rfl
theorem tx_size : (Tryz.prog.info? 35).map (·.size) = some 16 := by kernel_rfl
end Go.Proofs.YtehgibgeghhloaaGreatDoor

/- A request that lies in blocks of a given set; what stands while a request is copied; an append as a step of a drawn region. No Go function is walked here. -/
namespace Go.Proofs.YtehgibgeghhloaaGreatDoor
open Go.RowKit
set_option maxRecDepth 8000

theorem SeesR.kept {w w' : World} {S : Nat → Prop} {v : Value} {z : Nat} {cs : List (List Value)} (h : SeesR w v z cs) (hk : Kept w w' S) (hn : ∀ k, v.ownBlock = some k → ¬ S k) : SeesR w' v z cs := by
  obtain ⟨ao, cap, rfl, h1, h2, h0, h3⟩ := h
  refine ⟨ao, cap, rfl, h1, h2, h0, ?_⟩
  rcases h3 with h3 | ⟨b, off, rfl, h3⟩
  · exact .inl h3
  · exact .inr ⟨b, off, rfl, fun i hi j hj => hk.cell (h3 i hi j hj) (hn b rfl)⟩

/-- The cells cs are those of the request r, and all its lists lie in blocks of F. -/
inductive RqIn (w : World) (F : Nat → Prop) : List Value → Rq → Prop where
  | mk (f : RqF) (n : Nat) (ops : Fin n → Rq) (dv av wv ov : Value) (oc : Fin n → List Value)
      (hd : Sees w dv f.data) (ha : SeesR w av 3 (f.acl.map EnD.cells)) (hw : SeesR w wv 2 (f.who.map IdD.cells)) (ho : SeesR w ov 11 (List.ofFn oc))
      (fd : ∀ k, dv.ownBlock = some k → F k) (fa : ∀ k, av.ownBlock = some k → F k) (fw : ∀ k, wv.ownBlock = some k → F k) (fo : ∀ k, ov.ownBlock = some k → F k)
      (hs : ∀ i : Fin n, RqIn w F (oc i) (ops i)) : RqIn w F (rqCells f dv av wv ov) (.mk f n ops)

theorem RqIn.sees {w : World} {F : Nat → Prop} {cs : List Value} {r : Rq} (h : RqIn w F cs r) : SeesRq w cs r := by
  induction h with
  | mk f n ops dv av wv ov oc hd ha hw ho _ _ _ _ _ ih => exact .mk f n ops dv av wv ov oc hd ha hw ho ih

theorem RqIn.kept {w w' : World} {S F F' : Nat → Prop} (hk : Kept w w' S) (hF : ∀ k, F k → ¬ S k ∧ F' k) {cs : List Value} {r : Rq} (h : RqIn w F cs r) : RqIn w' F' cs r := by
  induction h with
  | mk f n ops dv av wv ov oc hd ha hw ho fd fa fw fo _ ih =>
    exact .mk f n ops dv av wv ov oc (hd.kept hk (fun k h => (hF k (fd k h)).1)) (ha.kept hk (fun k h => (hF k (fa k h)).1)) (hw.kept hk (fun k h => (hF k (fw k h)).1)) (ho.kept hk (fun k h => (hF k (fo k h)).1))
      (fun k h => (hF k (fd k h)).2) (fun k h => (hF k (fa k h)).2) (fun k h => (hF k (fw k h)).2) (fun k h => (hF k (fo k h)).2) ih

abbrev rqZ : Array Value := #[.int .i8 0, .string ⟨#[]⟩, .slice none 0 0, .slice none 0 0, .int .i32 0, .bool false, .bool false, .int .i64 0, .int .i32 0, .slice none 0 0, .slice none 0 0]

/-- What stands while a request is copied: the one that came in at N, the result's variable, the copy. -/
structure CS (w W : World) (cs ds : Array Value) : Prop where
  r : W.heap[w.heap.size]? = some (.cells cs 33 (0, 0))
  o : W.heap[w.heap.size + 1]? = some (.cells rqZ 33 (0, 0))
  c : W.heap[w.heap.size + 2]? = some (.cells ds 33 (0, 0))
  bel : Below w.heap.size w W

section
variable {w W W' : World} {cs ds : Array Value}
theorem CS.kept {S : Nat → Prop} (h : CS w W cs ds) (hk : Kept W W' S) (hS : ∀ k, S k → w.heap.size + 3 ≤ k) : CS w W' cs ds := by
  refine ⟨hk.heap h.r (fun e => by have := hS _ e; omega), hk.heap h.o (fun e => by have := hS _ e; omega), hk.heap h.c (fun e => by have := hS _ e; omega), h.bel.trans (hk.below h.bel.size (fun k e => by have := hS _ e; omega))⟩
theorem CS.lt (h : CS w W cs ds) : w.heap.size + 3 ≤ W.heap.size := lt_of_block h.c
theorem CS.later (h : CS w W cs ds) (hb : Below W.heap.size W W') : CS w W' cs ds := h.kept (Below.kept hb) (fun k hk => by have := h.lt; omega)
theorem CS.set (h : CS w W cs ds) (j : Nat) (u : Value) : CS w (W.setCell ⟨w.heap.size + 2, j, none⟩ u) cs (ds.setIfInBounds j u) := by
  have hk : Kept W (W.setCell ⟨w.heap.size + 2, j, none⟩ u) (fun k => k = w.heap.size + 2) := (Kept.refl W (fun k => k = w.heap.size + 2)).setCell _ _ (fun _ => rfl)
  refine ⟨hk.heap h.r (by omega), hk.heap h.o (by omega), heap_setR _ h.c, h.bel.trans (hk.below h.bel.size (fun k e => by omega))⟩
theorem CS.rc (h : CS w W cs ds) (j : Nat) : W.cell? ⟨w.heap.size, j, none⟩ = cs[j]? := cell_of_row _ _ _ _ _ _ h.r
theorem CS.cc (h : CS w W cs ds) (j : Nat) : W.cell? ⟨w.heap.size + 2, j, none⟩ = ds[j]? := cell_of_row _ _ _ _ _ _ h.c
theorem CS.cf (h : CS w W cs ds) (j : Nat) : W.frozen? ⟨w.heap.size + 2, j, none⟩ = false := frozen_of_row _ _ _ _ _ h.c
end

theorem Tryz.infoRq : (Tryz.prog.info? 33).map (fun i => (i.zero, i.size, i.bytes)) = some (some (.agg rqZ), 11, 144) := by kernel_rfl

theorem step_append_at {P : Program} {ops : Array Oper} {o : Oper} {a : Act} {w : World} {K : Act → World → Prop} {Q : Exit → Act → World → Prop} {E : Prop}
    (hg : o.guard = none) (s x : Operand) (t : TypeId) (hop : o.op = Op.call { callee := Callee.builtin Builtin.append, args := #[s, x], argTypes := #[t, t] })
    (base : Nat) (e : TypeId) (i : TypeInfo) (z : Value) (size bytes : Nat) (ht : P.underlying t = some (.slice e)) (hi : P.info? e = some i) (hz : i.zero = some z)
    (hsize : i.size = size) (hby : i.bytes = bytes) (hzs : z.cells.size = size) (hsz : 0 < size)
    (v : Value) (n : Nat) (xs : List Value) (hs : a.eval s = v) (hown : w.ownsRow base e size v n xs)
    (ad : Addr) (m c : Nat) (news : List Value) (hx : a.eval x = .slice (some ad) m c) (hl : news.length = m * size) (hnews : ∀ j u, news[j]? = some u → w.cell? (ad.add j) = some u) (h1 : ∀ u ∈ news, u.oneCell' = true)
    (h63 : n + m ≤ maxLen) (hbytes : (n + m) * bytes ≤ 140737488355328) (hbase : base ≤ w.heap.size)
    (h : ∀ v' w', w'.ownsRow base e size v' (n + m) (xs ++ news) → w.grownBy w' v.ownBlock → (v'.ownBlock = v.ownBlock ∨ v'.ownBlock = some w.heap.size) → K (a.put o.dst v') w') :
    if Region.wanted o (yielded ops a.tmps) = true then Oper.wp P o a w K Q else E := by
  have hw : Region.wanted o (yielded ops a.tmps) = true := by simp [Region.wanted, hg]
  rw [if_pos hw]
  obtain ⟨v', w', hr, h2, h3, _, h5⟩ := run_append_own_at (P := P) w base t o.type e i z size bytes ht hi hz hsize hby hzs hsz v n xs hown ad m c news hl hnews h1 h63 hbytes hbase
  unfold Oper.wp execOp
  simp only [hop, resolve, invoke, builtin, Sem.run_bind, Sem.run_pure, Result.andThen_ok, List.map_toArray, List.map_cons, List.map_nil, hs, hx, hr]
  exact h v' w' h2 h3 h5
end Go.Proofs.YtehgibgeghhloaaGreatDoor

/- What put of package txn lays of a Multi's requests, and PutList of them. -/
namespace Go.Proofs.YtehgibgeghhloaaGreatDoor
open Go.RowKit
set_option maxRecDepth 8000

/-- The bytes of a request within a Multi. -/
def encIn : Rq → List Int
  | .mk f _ _ => if f.kind = 1 then encP true true true false true false false false f [] else if f.kind = 3 then encP true true false true false false false false f [] else if f.kind = 4 then encP true false true true false false false false f [] else encP true false false true false false false false f []

theorem encIn_mk (f : RqF) (n : Nat) (ops : Fin n → Rq) : encIn (.mk f n ops) = if f.kind = 1 then encP true true true false true false false false f [] else if f.kind = 3 then encP true true false true false false false false f [] else if f.kind = 4 then encP true false true true false false false false f [] else encP true false false true false false false false f [] := rfl

theorem inOk_inv {f : RqF} {n : Nat} {ops : Fin n → Rq} (h : (Rq.mk f n ops).inOk = true) : 1 ≤ f.kind ∧ f.kind ≤ 5 ∧ bdOk f = true := by
  simp only [Rq.inOk, flatOk, Bool.and_eq_true] at h
  have h1 : nms 5 320 f.kind ≠ 0 := by simpa using h.1.1.1
  refine ⟨?_, ?_, h.2.1⟩
  · by_cases hk : f.kind < 1
    · exact absurd (by unfold nms; rw [if_pos (.inl hk)]) h1
    · omega
  · by_cases hk : 5 < f.kind
    · exact absurd (by unfold nms; rw [if_pos (.inr hk)]) h1
    · omega

theorem putIn_any (r : Rq) (cs : List Value) (B g : Nat) (v : Value) (xs : List Int) (w : World) (hr : RqIn w (· < B) cs r) (hok : r.inOk = true) (h : IsW w g v xs) (hx : xs.length ≤ 1000000000000) (hn : Nam w) (hB : 0 < B) (hg : B ≤ g) (hv : ∀ j, v.ownBlock = some j → B ≤ j) :
    Calls Tryz.prog 24 #[lay 5 320, .pointer (some ⟨g, 0, none⟩), .agg cs.toArray] w fun e w' => e = .returned (.tuple #[]) ∧ Puts w g v (xs ++ encIn r) w' := by
  cases hr with
  | mk f n ops dv av wv ov oc hd ha hw ho fd fa fw fo hs =>
    obtain ⟨h1, h2, h3⟩ := inOk_inv hok
    have hl : Lies4 w B f dv av wv := ⟨h3, hd, ha, hw, fd, fa, fw⟩
    have hov := seesR_form ho
    rw [encIn_mk]
    by_cases k1 : f.kind = 1
    · rw [if_pos k1]
      exact put_in1 f dv av wv ov hov B g v xs w k1 hl h hx hn hB hg hv
    · rw [if_neg k1]
      by_cases k3 : f.kind = 3
      · rw [if_pos k3]
        exact put_in3 f dv av wv ov hov B g v xs w k3 hl h hx hn hB hg hv
      · rw [if_neg k3]
        by_cases k4 : f.kind = 4
        · rw [if_pos k4]
          exact put_in4 f dv av wv ov hov B g v xs w k4 hl h hx hn hB hg hv
        · rw [if_neg k4]
          by_cases k2 : f.kind = 2
          · exact put_in2 f dv av wv ov hov B g v xs w k2 hl h hx hn hB hg hv
          · exact put_in5 f dv av wv ov hov B g v xs w (by omega) hl h hx hn hB hg hv

theorem encIn_len (r : Rq) (hok : r.inOk = true) : (encIn r).length ≤ 20000000000 := by
  cases r with
  | mk f n ops =>
    obtain ⟨h1, h2, h3⟩ := inOk_inv hok
    have hb := bdOk_inv h3
    have ha := acB_len f.acl (fun y hy => by have := hb.2.2.2.1 y hy; omega)
    have ht := txtB_len f.path
    rw [encIn_mk]
    split
    · simp [encP, be4]; omega
    · split
      · simp [encP, be4]; omega
      · split
        · simp [encP, be4]; omega
        · simp [encP, be4]; omega

/-- The bytes of a Multi's first k requests. -/
def opsB {n : Nat} (ops : Fin n → Rq) (k : Nat) : List Int := ((List.ofFn fun i : Fin n => encIn (ops i)).take k).flatten
theorem opsB_next {n : Nat} (ops : Fin n → Rq) (k : Nat) (h : k < n) : opsB ops (k + 1) = opsB ops k ++ encIn (ops ⟨k, h⟩) := by
  unfold opsB
  rw [List.take_succ_eq_append_getElem (by simpa using h), List.flatten_append]
  simp
theorem opsB_len {n : Nat} (ops : Fin n → Rq) (hok : ∀ i, (ops i).inOk = true) : ∀ k, k ≤ n → (opsB ops k).length ≤ 20000000000 * k
  | 0, _ => by simp [opsB]
  | k + 1, h => by
    have h1 := opsB_len ops hok k (by omega)
    have h2 := encIn_len (ops ⟨k, by omega⟩) (hok _)
    rw [opsB_next ops k (by omega), List.length_append]
    omega

theorem putDefR (w : World) : CallsD Tryz.prog 141 #[] .returning w fun e u' w' => e = .returned (.tuple #[]) ∧ u' = .returning ∧ w' = w := by
  refine callsD_of_wpS Tryz.func141 rfl fun c₀ cs hu => ?_
  apply wpS_region
  simp [wpOpsS, go_sem, recoverD, hu, Tryz.ntmps141, bodyPostS, results, Tryz.results141]
  cases c₀
  simp_all

set_option maxHeartbeats 4000000 in
theorem putListR_any (B g : Nat) (v u : Value) (xs : List Int) (n : Nat) (oc : Fin n → List Value) (ops : Fin n → Rq) (w : World) (h : IsW w g v xs) (hs : SeesR w u 11 (List.ofFn oc)) (hr : ∀ i, RqIn w (· < B) (oc i) (ops i)) (hok : ∀ i, (ops i).inOk = true) (hn8 : n ≤ 8) (hx : xs.length ≤ 100000000000) (hn : Nam w) (hB : 0 < B) (hg : B ≤ g) (hv : ∀ j, v.ownBlock = some j → B ≤ j) (fu : ∀ k, u.ownBlock = some k → k < B) :
    Calls Tryz.prog 84 #[.pointer (some ⟨g, 0, none⟩), u, .func (.func 24) #[lay 5 320] #[]] w fun e w' => e = .returned (.tuple #[]) ∧ Puts w g v (xs ++ (be4 n ++ opsB ops n)) w' := by
  have H : Hid (IsW w g v xs ∧ SeesR w u 11 (List.ofFn oc) ∧ (∀ i, RqIn w (· < B) (oc i) (ops i)) ∧ (∀ i, (ops i).inOk = true) ∧ Nam w ∧ 0 < B ∧ B ≤ g ∧ (∀ j, v.ownBlock = some j → B ≤ j) ∧ (∀ k, u.ownBlock = some k → k < B)) := ⟨h, hs, hr, hok, hn, hB, hg, hv, fu⟩
  have HL : Hid (g < w.heap.size ∧ ∀ k, v.ownBlock = some k → k < w.heap.size) := h.lt
  obtain ⟨ao, cap, rfl, hlc, hcm, h0, h3⟩ := hs
  rw [List.length_ofFn] at hlc ⊢
  unfold maxLen at hcm
  clear h h3 h0 hr hok hn hB hg hv fu
  have hfn : ∀ w, (binOp .eql 85 (.func (.func 24) #[lay 5 320] #[]) .nilFunc).run Tryz.prog w = .ok (.bool false) w := fun _ => by kernel_rfl
  go_enter_defers Tryz.func84, Tryz.ntmps84
  go_wp2_with fail
  refine (wInt32_any g v xs n _ H.out.1 (by omega)).mono ?_
  rintro e w1 ⟨rfl, hp⟩
  rw [show up32 (n : Int) = n by unfold up32; omega] at hp
  have HP : Hid (Puts w g v (xs ++ be4 n) w1) := hp
  clear hp
  go_wp2
  go_loopw [7, 19] (fun _ i wr => ∃ k : Nat, k ≤ n ∧ i = .int .i64 k ∧ Puts w g v (xs ++ be4 n ++ opsB ops k) wr) (fun _ i _ => n - (intOf i).toNat)
  case atStart => exact ⟨0, Nat.zero_le _, rfl, by simpa [opsB] using HP.out⟩
  case round =>
    clear HP
    obtain ⟨k, hk, rfl, hp⟩ := hrel
    have HP : Hid (Puts w g v (xs ++ be4 n ++ opsB ops k) wr) := hp
    clear hp
    by_cases hlt : k < n
    · obtain ⟨ao', cap', e, _, _, _, h3⟩ := H.out.2.1
      simp at e
      obtain ⟨rfl, rfl⟩ := e
      rcases h3 with h3 | ⟨b, off, rfl, h3⟩
      · have : n = 0 := by simpa using congrArg List.length h3
        omega
      · have hb := H.out.2.2.2.2.2.2.2.2 b (by simp [Value.ownBlock])
        have hbg : b ≠ g := by have := H.out.2.2.2.2.2.2.1; omega
        have hbv : v.ownBlock ≠ some b := fun e => by have := H.out.2.2.2.2.2.2.2.1 b e; omega
        obtain ⟨q0, q1, d0, d1, d2, a0, a1, a2, q4, q5, q6, q7, q8, e0, e1, e2, o0, o1, o2, hcs⟩ := rq_forms (H.out.2.2.1 ⟨k, hlt⟩).sees
        have hat : ∀ j, j < 11 → wr.cell? ⟨b, off + k * 11 + j, none⟩ = some ((oc ⟨k, hlt⟩).getD j (.bool false)) := fun j hj => by
          have := HP.out.cell (h3 k (by simpa using hlt) j hj) hbg hbv
          simpa using this
        rw [hcs] at hat
        have g0 : wr.cell? ⟨b, off + k * 11, none⟩ = some (.int .i8 q0) := hat 0 (by omega)
        have g1 : wr.cell? ⟨b, off + k * 11 + 1, none⟩ = some (.string q1) := hat 1 (by omega)
        have g2 : wr.cell? ⟨b, off + k * 11 + 2, none⟩ = some (.slice d0 d1 d2) := hat 2 (by omega)
        have g3 : wr.cell? ⟨b, off + k * 11 + 3, none⟩ = some (.slice a0 a1 a2) := hat 3 (by omega)
        have g4 : wr.cell? ⟨b, off + k * 11 + 4, none⟩ = some (.int .i32 q4) := hat 4 (by omega)
        have g5 : wr.cell? ⟨b, off + k * 11 + 5, none⟩ = some (.bool q5) := hat 5 (by omega)
        have g6 : wr.cell? ⟨b, off + k * 11 + 6, none⟩ = some (.bool q6) := hat 6 (by omega)
        have g7 : wr.cell? ⟨b, off + k * 11 + 7, none⟩ = some (.int .i64 q7) := hat 7 (by omega)
        have g8 : wr.cell? ⟨b, off + k * 11 + 8, none⟩ = some (.int .i32 q8) := hat 8 (by omega)
        have g9 : wr.cell? ⟨b, off + k * 11 + 9, none⟩ = some (.slice e0 e1 e2) := hat 9 (by omega)
        have g10 : wr.cell? ⟨b, off + k * 11 + 10, none⟩ = some (.slice o0 o1 o2) := hat 10 (by omega)
        have HT : Hid (opsB ops (k + 1) = opsB ops k ++ encIn (ops ⟨k, hlt⟩)) := opsB_next ops k hlt
        have HN : Hid ((opsB ops k).length ≤ 20000000000 * k) := opsB_len ops H.out.2.2.2.1 k (by omega)
        have HX : Hid (∀ (W : World) (vk : Value), Puts w g v (xs ++ be4 n ++ opsB ops k) W → IsW W g vk (xs ++ be4 n ++ opsB ops k) → NewRow w v vk → Calls Tryz.prog 24 #[lay 5 320, .pointer (some ⟨g, 0, none⟩), .agg #[.int .i8 q0, .string q1, .slice d0 d1 d2, .slice a0 a1 a2, .int .i32 q4, .bool q5, .bool q6, .int .i64 q7, .int .i32 q8, .slice e0 e1 e2, .slice o0 o1 o2]] W fun e w' => e = .returned (.tuple #[]) ∧ Puts W g vk ((xs ++ be4 n ++ opsB ops k) ++ encIn (ops ⟨k, hlt⟩)) w') := fun W vk hp hW hN' => by
          obtain ⟨v1, _, _, p3⟩ := id hp
          have hin := RqIn.kept p3 (F' := (· < B)) (fun q hq => ⟨fun e => by
            have := H.out.2.2.2.2.2.2.1
            rcases e with e | e
            · omega
            · have := H.out.2.2.2.2.2.2.2.1 q e; omega, hq⟩) (H.out.2.2.1 ⟨k, hlt⟩)
          rw [hcs] at hin
          refine putIn_any (ops ⟨k, hlt⟩) _ B g vk _ W hin (H.out.2.2.2.1 _) hW (by have := HN.out; rw [List.length_append, List.length_append, be4_length]; omega) (hp.nam H.out.2.2.2.2.1 (by have := H.out.2.2.2.2.2.1; have := H.out.2.2.2.2.2.2.1; omega) (fun q hq => by have := H.out.2.2.2.2.2.2.2.1 q hq; have := H.out.2.2.2.2.2.1; omega)) H.out.2.2.2.2.2.1 H.out.2.2.2.2.2.2.1 (fun q hq => ?_)
          rcases hN' with e | ⟨q', e, hq'⟩
          · exact H.out.2.2.2.2.2.2.2.1 q (by rw [← e]; exact hq)
          · rw [hq] at e
            simp at e
            have := H.out.2.2.2.2.2.2.1
            have := HL.out.1
            omega
        clear h3 hat hcs hb hbg hbv
        go_wp2_with fail
        have hpa := HP.out.later (one_alloc wr (.cells #[.int .i8 q0, .string q1, .slice d0 d1 d2, .slice a0 a1 a2, .int .i32 q4, .bool q5, .bool q6, .int .i64 q7, .int .i32 q8, .slice e0 e1 e2, .slice o0 o1 o2] 33))
        obtain ⟨vk, hW, hNw, hK⟩ := id hpa
        refine (HX.out _ vk hpa hW hNw).mono ?_
        rintro e w2 ⟨rfl, hp2⟩
        have hp3 := Puts.next hNw hK hp2
        rw [List.append_assoc, ← HT.out] at hp3
        have HP2 : Hid (Puts w g v (xs ++ be4 n ++ opsB ops (k + 1)) w2) := hp3
        clear hp2 hp3 hW hNw hK hpa
        go_wp2
        go_roundw
        case rel => exact ⟨k + 1, by omega, by go_num, HP2.out⟩
        case measure => simp [intOf]; omega
    · obtain rfl : k = n := by omega
      have HQ : Hid (Puts w g v (xs ++ (be4 k ++ opsB ops k)) wr) := by rw [← List.append_assoc]; exact HP.out
      clear HP
      go_wp2
      refine leaves_cons (f := 141) (args := #[]) (by simp) (by simp [go_sem]) ?_
      refine (putDefR _).mono ?_
      rintro e u' w'' ⟨rfl, rfl, rfl⟩
      exact ⟨_, results_none rfl _ _ _, rfl, HQ.out⟩
end Go.Proofs.YtehgibgeghhloaaGreatDoor
