/- Two Writers in turns: behind a store of what one must hold, and behind a list more; no Go function is walked here but Len and spoil. -/
import Derived.Test.YtmjcpcpcngpdjaaGreatDoorTells
namespace Go.Proofs.YtmjcpcpcngpdjaaGreatDoor
open Go.RowKit
set_option maxRecDepth 8000

/-- The place of a Writer in the array. -/
def ix (b : Bool) : Nat := if b then 1 else 0

section
variable {w wr w1 w2 : World} {A D G : Nat} {W : Bool → Nat} {v d : Bool → Value} {xs ys : Bool → List Int} {kv hv : Value} {ks hs : List Pc} {zs hz : List (List Int)}

theorem Tells.aCell (h : Tells w A D G W wr v d xs ys kv hv ks hs zs hz) (b : Bool) : wr.cell? ⟨A, ix b, none⟩ = some (.pointer (some ⟨W b, 0, none⟩)) := by
  rw [cell_of_row wr A _ _ _ _ h.a]
  cases b <;> rfl
theorem Tells.dCell (h : Tells w A D G W wr v d xs ys kv hv ks hs zs hz) (b : Bool) : wr.cell? ⟨D, ix b, none⟩ = some (d b) := by
  rw [cell_of_row wr D _ _ _ _ h.d']
  cases b <;> rfl

theorem Tells.want (h : Tells w A D G W wr v d xs ys kv hv ks hs zs hz) (b : Bool) {u : Value} {us : List Int} (ho : Owns wr w.heap.size u us) (hu : ∀ k, u.ownBlock = some k → ∀ c, (v c).ownBlock ≠ some k) :
    Tells w A D G W (wr.setCell ⟨D, ix b, none⟩ u) v (upd d b u) xs (upd ys b us) kv hv ks hs zs hz := by
  have hk : Kept wr (wr.setCell ⟨D, ix b, none⟩ u) (fun k => k = D) := (Kept.refl wr _).setCell _ _ (fun _ => rfl)
  have hn : ∀ {x : Nat} {cs : Array Value} {T : TypeId} {fr : Nat × Nat}, wr.heap[x]? = some (.cells cs T fr) → T ≠ 28 → ¬ x = D := fun hx hT => ne_type hx h.d' hT
  exact
  { a := hk.heap h.a (hn h.a (by decide))
    d' := by
      rw [setCell_eq_setRow wr D _ _ _ _ _ h.d', setRow_heap wr D _ _ _ _ h.d']
      cases b <;> rfl
    isW := fun c => (h.isW c).kept hk (hn (h.isW c).1 (by decide)) (fun k hk' => hn (own_row (h.isW c).2 hk').1.choose_spec (by decide))
    own := fun c => by
      by_cases hc : c = b
      · subst hc
        rw [upd_same, upd_same]
        exact Owns.kept ho hk (fun k hk' => hn (own_row ho hk').1.choose_spec (by decide))
      · rw [upd_other _ _ _ _ hc, upd_other _ _ _ _ hc]
        exact Owns.kept (h.own c) hk (fun k hk' => hn (own_row (h.own c) hk').1.choose_spec (by decide))
    bag := ⟨hk.heap h.bag.row (hn h.bag.row (by decide)), World.ownsRow_nil _ _ _ _, World.ownsRow_nil _ _ _ _⟩
    kept := ownsRow_kept' h.kept hk (fun k hk' => hn (rows_row h.kept hk').1.choose_spec (by decide))
    whole := ownsRow_kept' h.whole hk (fun k hk' => hn (rows_row h.whole hk').1.choose_spec (by decide))
    klen := h.klen
    hlen := h.hlen
    klook := fun j hj hk' => Owns.kept (h.klook j hj hk') hk (fun k hk2 => hn (h.klow _ (List.getElem_mem hk') k hk2).1.choose_spec (by decide))
    hlook := fun j hj hk' => Owns.kept (h.hlook j hj hk') hk (fun k hk2 => hn (h.hlow _ (List.getElem_mem hk') k hk2).1.choose_spec (by decide))
    apart := h.apart
    kfar := h.kfar
    hfar := h.hfar
    dfar := fun c k hk' => by
      by_cases hc : c = b
      · subst hc; rw [upd_same] at hk'; exact hu k hk'
      · rw [upd_other _ _ _ _ hc] at hk'; exact h.dfar c k hk'
    kh := h.kh
    wne := h.wne
    vne := h.vne
    vlow := h.vlow
    wlow := h.wlow
    alow := h.alow
    dlow := h.dlow
    glow := h.glow
    below := h.below.trans (hk.below h.below.size (fun k e => by rw [e]; exact h.dlow)) }

theorem Tells.pushK (h : Tells w A D G W wr v d xs ys kv hv ks hs zs hz) {p : Pc} {z : List Int} {kv' : Value} (ho : Owns wr w.heap.size p.val z) (hu : ∀ k, p.val.ownBlock = some k → ∀ c, (v c).ownBlock ≠ some k) (hap : ∀ q ∈ ks, ∀ k, q.val.ownBlock = some k → p.val.ownBlock ≠ some k)
    (hown : w2.ownsRow w.heap.size 27 1 kv' (ks.length + 1) (ks.map Pc.val ++ [p.val])) (hk : Kept wr w2 (fun k => kv.ownBlock = some k)) (hat : ∀ k, kv'.ownBlock = some k → kv.ownBlock = some k ∨ wr.heap.size ≤ k) :
    Tells w A D G W w2 v d xs ys kv' hv (ks ++ [p]) hs (zs ++ [z]) hz := by
  have hn : ∀ {x : Nat} {cs : Array Value} {T : TypeId} {fr : Nat × Nat}, wr.heap[x]? = some (.cells cs T fr) → T ≠ 27 → ¬ kv.ownBlock = some x := fun hx hT e => ne_type hx (rows_row h.kept e).1.choose_spec hT rfl
  exact
  { a := hk.heap h.a (hn h.a (by decide))
    d' := hk.heap h.d' (hn h.d' (by decide))
    isW := fun c => (h.isW c).kept hk (hn (h.isW c).1 (by decide)) (fun k hk' => hn (own_row (h.isW c).2 hk').1.choose_spec (by decide))
    own := fun c => Owns.kept (h.own c) hk (fun k hk' => hn (own_row (h.own c) hk').1.choose_spec (by decide))
    bag := ⟨hk.heap h.bag.row (hn h.bag.row (by decide)), World.ownsRow_nil _ _ _ _, World.ownsRow_nil _ _ _ _⟩
    kept := by rw [List.length_append, List.map_append]; exact hown
    whole := ownsRow_kept' h.whole hk (fun k hk' e => h.kh k e hk')
    klen := by rw [List.length_append, List.length_append, h.klen]; rfl
    hlen := h.hlen
    klook := fun j hj hk' => by
      by_cases hj' : j < ks.length
      · have hz' : j < zs.length := by rw [← h.klen]; exact hj'
        simp only [List.getElem_append_left hj', List.getElem_append_left hz']
        exact Owns.kept (h.klook j hz' hj') hk (fun k hk2 => hn (h.klow _ (List.getElem_mem hj') k hk2).1.choose_spec (by decide))
      · have e : j = ks.length := by rw [List.length_append] at hk'; simp at hk'; omega
        subst e
        have e2 : (zs ++ [z])[ks.length]'hj = z := by simp [h.klen]
        rw [e2]
        simp only [List.getElem_append_right (Nat.le_refl _), Nat.sub_self, List.getElem_cons_zero]
        exact Owns.kept ho hk (fun k hk2 => hn (own_row ho hk2).1.choose_spec (by decide))
    hlook := fun j hj hk' => Owns.kept (h.hlook j hj hk') hk (fun k hk2 => hn (h.hlow _ (List.getElem_mem hk') k hk2).1.choose_spec (by decide))
    apart := fun i j hi hj hne k e1 e2 => by
      have hin : ∀ i, (hi : i < (ks ++ [p]).length) → (i < ks.length) ∨ i = ks.length := fun i hi => by rw [List.length_append] at hi; simp at hi; omega
      rcases hin i hi with hi' | hi' <;> rcases hin j hj with hj' | hj'
      · simp only [List.getElem_append_left hi'] at e1
        simp only [List.getElem_append_left hj'] at e2
        exact h.apart i j hi' hj' hne k e1 e2
      · subst hj'
        simp only [List.getElem_append_left hi'] at e1
        simp only [List.getElem_append_right (Nat.le_refl _), Nat.sub_self, List.getElem_cons_zero] at e2
        exact hap _ (List.getElem_mem hi') k e1 e2
      · subst hi'
        simp only [List.getElem_append_right (Nat.le_refl _), Nat.sub_self, List.getElem_cons_zero] at e1
        simp only [List.getElem_append_left hj'] at e2
        exact hap _ (List.getElem_mem hj') k e2 e1
      · exact hne (hi'.trans hj'.symm)
    kfar := fun q hq => by
      rcases List.mem_append.1 hq with hq | hq
      · exact h.kfar q hq
      · simp at hq; subst hq; exact hu
    hfar := h.hfar
    dfar := h.dfar
    kh := fun k e e' => by
      rcases hat k e with q | q
      · exact h.kh k q e'
      · have := (rows_row h.whole e').2.2; omega
    wne := h.wne
    vne := h.vne
    vlow := h.vlow
    wlow := h.wlow
    alow := h.alow
    dlow := h.dlow
    glow := h.glow
    below := h.below.trans (hk.below h.below.size (fun k e => (rows_row h.kept e).2.1)) }

theorem Tells.pushH (h : Tells w A D G W wr v d xs ys kv hv ks hs zs hz) {p : Pc} {z : List Int} {hv' : Value} (ho : Owns wr w.heap.size p.val z) (hu : ∀ k, p.val.ownBlock = some k → ∀ c, (v c).ownBlock ≠ some k)
    (hown : w2.ownsRow w.heap.size 27 1 hv' (hs.length + 1) (hs.map Pc.val ++ [p.val])) (hk : Kept wr w2 (fun k => hv.ownBlock = some k)) (hat : ∀ k, hv'.ownBlock = some k → hv.ownBlock = some k ∨ wr.heap.size ≤ k) :
    Tells w A D G W w2 v d xs ys kv hv' ks (hs ++ [p]) zs (hz ++ [z]) := by
  have hn : ∀ {x : Nat} {cs : Array Value} {T : TypeId} {fr : Nat × Nat}, wr.heap[x]? = some (.cells cs T fr) → T ≠ 27 → ¬ hv.ownBlock = some x := fun hx hT e => ne_type hx (rows_row h.whole e).1.choose_spec hT rfl
  exact
  { a := hk.heap h.a (hn h.a (by decide))
    d' := hk.heap h.d' (hn h.d' (by decide))
    isW := fun c => (h.isW c).kept hk (hn (h.isW c).1 (by decide)) (fun k hk' => hn (own_row (h.isW c).2 hk').1.choose_spec (by decide))
    own := fun c => Owns.kept (h.own c) hk (fun k hk' => hn (own_row (h.own c) hk').1.choose_spec (by decide))
    bag := ⟨hk.heap h.bag.row (hn h.bag.row (by decide)), World.ownsRow_nil _ _ _ _, World.ownsRow_nil _ _ _ _⟩
    kept := ownsRow_kept' h.kept hk (fun k hk' e => h.kh k hk' e)
    whole := by rw [List.length_append, List.map_append]; exact hown
    klen := h.klen
    hlen := by rw [List.length_append, List.length_append, h.hlen]; rfl
    klook := fun j hj hk' => Owns.kept (h.klook j hj hk') hk (fun k hk2 => hn (h.klow _ (List.getElem_mem hk') k hk2).1.choose_spec (by decide))
    hlook := fun j hj hk' => by
      by_cases hj' : j < hs.length
      · have hz' : j < hz.length := by rw [← h.hlen]; exact hj'
        simp only [List.getElem_append_left hj', List.getElem_append_left hz']
        exact Owns.kept (h.hlook j hz' hj') hk (fun k hk2 => hn (h.hlow _ (List.getElem_mem hj') k hk2).1.choose_spec (by decide))
      · have e : j = hs.length := by rw [List.length_append] at hk'; simp at hk'; omega
        subst e
        have e2 : (hz ++ [z])[hs.length]'hj = z := by simp [h.hlen]
        rw [e2]
        simp only [List.getElem_append_right (Nat.le_refl _), Nat.sub_self, List.getElem_cons_zero]
        exact Owns.kept ho hk (fun k hk2 => hn (own_row ho hk2).1.choose_spec (by decide))
    apart := h.apart
    kfar := h.kfar
    hfar := fun q hq => by
      rcases List.mem_append.1 hq with hq | hq
      · exact h.hfar q hq
      · simp at hq; subst hq; exact hu
    dfar := h.dfar
    kh := fun k e e' => by
      rcases hat k e' with q | q
      · exact h.kh k e q
      · have := (rows_row h.kept e).2.2; omega
    wne := h.wne
    vne := h.vne
    vlow := h.vlow
    wlow := h.wlow
    alow := h.alow
    dlow := h.dlow
    glow := h.glow
    below := h.below.trans (hk.below h.below.size (fun k e => (rows_row h.whole e).2.1)) }

end

theorem wLen_any (g : Nat) (v : Value) (xs : List Int) (w : World) (h : IsW w g v xs) : Calls Tryz.prog 9 #[.pointer (some ⟨g, 0, none⟩)] w fun e w' => e = .returned (.int .i64 xs.length) ∧ w' = w := by
  have hc := cell_of_one h.1
  obtain ⟨ao, cap, rfl, _, q2, _, _⟩ := Sees.own h.2
  unfold maxLen at q2
  clear h
  go_enter Tryz.func9, Tryz.ntmps9
  go_wp2
  go_ret
  exact ⟨rfl, rfl⟩

theorem spoil_zero (ao : Option Addr) (cap : Nat) (w : World) : Calls Tryz.prog 12 #[.slice ao 0 cap] w fun e w' => e = .returned (.tuple #[]) ∧ w' = w := by
  go_enter Tryz.func12, Tryz.ntmps12
  go_wp2
  go_loopw [2] (fun i wr => i = .int .i64 0 ∧ wr = w) (fun _ _ => 0)
  case atStart => exact ⟨rfl, rfl⟩
  case round =>
    obtain ⟨rfl, rfl⟩ := hrel
    go_wp2
    go_end0
    exact ⟨rfl, rfl⟩

theorem spoil_own {w : World} {B : Nat} {c : Value} {ws : List Int} (h : Owns w B c ws) (hm : ws.length ≤ 70000000000000) : Calls Tryz.prog 12 #[c] w fun e w' => e = .returned (.tuple #[]) ∧ Kept w w' (fun k => c.ownBlock = some k) := by
  have h2 := h
  rcases h.2 with ⟨rfl, _⟩ | ⟨g, cap, cur, rfl, _⟩
  · refine (spoil_zero none 0 w).mono ?_
    rintro e w' ⟨rfl, rfl⟩
    exact ⟨rfl, Kept.refl _ _⟩
  · refine (spoil_any g ws ws.length cap w (owns_mono h2 (Nat.zero_le _)) (Nat.le_refl _) hm).mono ?_
    rintro e w' ⟨rfl, hk⟩
    exact ⟨rfl, hk.mono (fun k _ e => by rw [e]; rfl)⟩

theorem Tells.high {w wr w0 w1 : World} {A D G : Nat} {W : Bool → Nat} {v d : Bool → Value} {xs ys : Bool → List Int} {kv hv : Value} {ks hs : List Pc} {zs hz : List (List Int)} (h0 : Tells w A D G W w0 v d xs ys kv hv ks hs zs hz) (h : Tells w A D G W wr v d xs ys kv hv ks hs zs hz) (hk : Kept wr w1 (fun k => w0.heap.size ≤ k)) : Tells w A D G W w1 v d xs ys kv hv ks hs zs hz :=
  h.keep hk (by have := lt_of_block h0.a; omega) (by have := lt_of_block h0.d'; omega) (by have := lt_of_block h0.bag.row; omega) (fun b => by have := lt_of_block (h0.isW b).1; omega) (fun b k e => by have := (own_row (h0.isW b).2 e).2.2; omega) (fun b k e => by have := (own_row (h0.own b) e).2.2; omega)
    (fun k e => by have := (rows_row h0.kept e).2.2; omega) (fun k e => by have := (rows_row h0.whole e).2.2; omega) (fun p hp k e => by have := (h0.klow p hp k e).2.2; omega) (fun p hp k e => by have := (h0.hlow p hp k e).2.2; omega) (fun k hk => Nat.le_trans h0.below.size hk)

theorem rows_lies {w : World} {B : Nat} {E : TypeId} {p : Pc} {n : Nat} {xs : List Value} (h : w.ownsRow B E 1 p.val n xs) : Lies w E p := by
  obtain ⟨ao, m, c⟩ := p
  rcases h.2 with ⟨e, _⟩ | ⟨g, cap, cur, e, _, hr, h1, h2, h3, _⟩
  · unfold Pc.val at e
    simp at e
    obtain ⟨rfl, rfl, rfl⟩ := e
    exact ⟨Nat.le_refl _, Nat.zero_le _, fun _ => rfl, fun h => by simp at h⟩
  · unfold Pc.val at e
    simp at e
    obtain ⟨rfl, rfl, rfl⟩ := e
    exact ⟨h1, h2, fun e => by simp at e, fun _ => ⟨g, 0, cur, rfl, hr, by simp at h3 ⊢; omega⟩⟩

theorem own_lies {w : World} {B : Nat} {p : Pc} {z : List Int} (h : Owns w B p.val z) : Lies w 5 p := rows_lies h

theorem foot_block {p : Pc} {k x : Nat} (h : p.foot k x) : p.val.ownBlock = some k := by
  obtain ⟨off, e, _⟩ := h
  unfold Pc.val
  rw [e]
  rfl

theorem own_len {w : World} {B : Nat} {p : Pc} {z : List Int} (h : Owns w B p.val z) : p.n = z.length := by
  obtain ⟨_, _, e, _⟩ := Sees.own h
  unfold Pc.val at e
  simp at e
  exact e.2.1

theorem tells_bag {w wr w3 : World} {N : Nat} {W : Bool → Nat} {v d : Bool → Value} {xs ys : Bool → List Int} {ka ha : Option Addr} {kc hc : Nat} {ks hs : List Pc} {zs hz : List (List Int)} {A D : Nat} {bv pv : Value} (h : Tells w A D N W wr v d xs ys (.slice ka ks.length kc) (.slice ha hs.length hc) ks hs zs hz)
    (hbag : BagIs w3 N bv pv (ks.take 600) [⟨ka, ks.length, kc⟩] w.heap.size) (hk : Kept wr w3 (fun k => k = N)) (ht : Tab w) (hg0 : 1 < w.heap.size) (hz : ∀ z ∈ zs, z.length ≤ 70000000000000) :
    BagIs w3 N bv pv (ks.take 600) [⟨ka, ks.length, kc⟩] w.heap.size ∧ (∀ q ∈ ks.take 600, Lies w3 5 q) ∧ ApartPcs (ks.take 600) ∧ (∀ q ∈ ks.take 600, q.n ≤ 70000000000000) ∧ Lies w3 27 ⟨ka, ks.length, kc⟩ ∧ Tab w3 ∧ (∀ k x, feet (ks.take 600) k x → w.heap.size ≤ k) ∧ (∀ k x, (⟨ka, ks.length, kc⟩ : Pc).foot k x → w.heap.size ≤ k) ∧ Below w.heap.size w w3 := by
  have hb : Below w.heap.size w w3 := h.below.trans (hk.below h.below.size (fun k e => by rw [e]; exact h.glow))
  have hown : ∀ q ∈ ks, ∃ z ∈ zs, Owns w3 w.heap.size q.val z := by
    intro q hq
    obtain ⟨j, hj, rfl⟩ := List.getElem_of_mem hq
    have hjz : j < zs.length := by rw [← h.klen]; exact hj
    refine ⟨zs[j], List.getElem_mem hjz, Owns.kept (h.klook j hjz hj) hk (fun k e e' => ?_)⟩
    exact ne_type (h.klow _ (List.getElem_mem hj) k e).1.choose_spec h.bag.row (by decide) e'
  have hkept : w3.ownsRow w.heap.size 27 1 (Pc.val ⟨ka, ks.length, kc⟩) ks.length (ks.map Pc.val) := ownsRow_kept' h.kept hk (fun k e e' => ne_type (rows_row h.kept e).1.choose_spec h.bag.row (by decide) e')
  have hmem : ∀ q ∈ ks.take 600, q ∈ ks := fun q hq => List.mem_of_mem_take hq
  refine ⟨hbag, fun q hq => ?_, fun i j hi hj hne k x h1 h2 => ?_, fun q hq => ?_, rows_lies hkept, Tab.same ht (hb.block _ hg0), fun k x ⟨q, hq, hf⟩ => ?_, fun k x hf => (rows_row hkept (foot_block hf)).2.1, hb⟩
  · obtain ⟨z, _, ho⟩ := hown q (hmem q hq)
    exact own_lies ho
  · have hi' : i < ks.length := by rw [List.length_take] at hi; omega
    have hj' : j < ks.length := by rw [List.length_take] at hj; omega
    rw [List.getElem_take] at h1 h2
    exact h.apart i j hi' hj' hne k (foot_block h1) (foot_block h2)
  · obtain ⟨z, hzm, ho⟩ := hown q (hmem q hq)
    rw [own_len ho]
    exact hz z hzm
  · obtain ⟨z, _, ho⟩ := hown q (hmem q hq)
    exact (own_row ho (foot_block hf)).2.1

end Go.Proofs.YtmjcpcpcngpdjaaGreatDoor
