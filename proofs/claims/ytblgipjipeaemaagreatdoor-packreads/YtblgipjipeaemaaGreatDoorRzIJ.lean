/- Reads: a list is written over, a list is kept, and all that were kept go into a Bag: what stays. -/
import Derived.Test.YtblgipjipeaemaaGreatDoorRzFJ
import Derived.Test.YtblgipjipeaemaaGreatDoorRzEJ
namespace Go.Proofs.YtblgipjipeaemaaGreatDoor
open Go.RowKit
set_option maxRecDepth 8000
namespace Rz
section
variable {w wr w' w2 w3 : World} {gr gd C E hi p : Nat} {vd v kv hv kv' hv' u : Value} {bs xs ys rest z : List Int} {ks hs : List Pc} {zs : List (List Int)} {f fd : Int}

theorem Rp.keepN {S : Nat → Prop} (hc : Rc w gr gd C vd bs) (h : Rp gr gd C E vd bs wr v xs f p fd hi) (hk : Kept wr w' S) (hS : ∀ k, S k → w.heap.size ≤ k) : Rp gr gd C E vd bs w' v xs f p fd hi := by
  have hr := hc.r
  have hd := hc.d
  refine ⟨h.isR.kept' hk (fun e => by have := hS _ e; omega) (fun hx k hk' e => ?_), h.isQ.kept' hk (fun e => by have := hS _ e; omega) (fun hb k hk' e => by have := (hc.far hb k hk').1; have := hS _ e; omega), h.pos, h.room, h.some'⟩
  obtain ⟨off, c, e1, _⟩ := h.pos hx
  rw [e1] at hk'
  simp [Value.ownBlock] at hk'
  subst hk'
  have := (hc.c (h.some' hx)).1
  have := hS _ e
  omega

theorem spoil_new {ua : Option Addr} {q : Nat} (hc : Rc w gr gd C vd bs) (hL : Rl w gr gd C E bs wr kv hv ks hs zs hi) (hP : Rp gr gd C E vd bs wr v rest f p fd hi) (hn : NewCut bs C E hi (.slice ua q q) ys rest) (hu : Sees wr (.slice ua q q) ys) (hm : ys.length ≤ 70000000000000) :
    Calls Tryz.prog 22 #[.slice ua q q] wr fun e w' => e = .returned (.tuple #[]) ∧ Rl w gr gd C E bs w' kv hv ks hs zs hi ∧ Rp gr gd C E vd bs w' v rest f p fd hi := by
  have hq : q = ys.length := by obtain ⟨_, _, e, _⟩ := hu; simp only [Value.slice.injEq] at e; exact e.2.1
  by_cases hy : ys = []
  · subst hy
    subst hq
    refine (spoil_zero ua 0 wr).mono ?_
    rintro e w' ⟨rfl, rfl⟩
    exact ⟨rfl, hL, hP⟩
  · obtain ⟨hb, off, e, h1, h2⟩ := hn hy
    simp only [Value.slice.injEq] at e
    obtain ⟨rfl, rfl, _⟩ := e
    obtain ⟨cs, hr, hsz⟩ := hL.crow hb
    refine (spoil_at C off ys.length ys.length cs wr hr (by omega) hm).mono ?_
    rintro e w' ⟨rfl, ht⟩
    exact ⟨rfl, hL.calm hc (Calm.of_turned ht (fun b i hs => ⟨hb, hs.1, by omega⟩)), hP.spoil hc ht (fun b i hs => ⟨hb, hs.1, by omega⟩)⟩

theorem Kc.foot {pc : Pc} {k x : Nat} (h : Kc wr C hi pc z) (hf : pc.foot k x) : k = C ∧ x < hi ∧ z ≠ [] := by
  obtain ⟨off, e, h1, h2⟩ := hf
  have hz : z ≠ [] := fun hz => by have := h.cap; rw [hz] at this; simp at this; omega
  obtain ⟨o1, e1, h3⟩ := h.at' hz
  rw [e] at e1
  simp only [Option.some.injEq, Addr.mk.injEq, and_true] at e1
  have := h.cap
  exact ⟨e1.1, by omega, hz⟩

theorem Rl.push {pk ph : Pc} (hc : Rc w gr gd C vd bs) (h : Rl w gr gd C E bs wr kv hv ks hs zs hi) (hn : NewCut bs C E hi pk.val z rest) (hroom : hi + rest.length ≤ E) (hsee : Sees wr pk.val z) (hcap : pk.cap = z.length) (ho : Owns wr w.heap.size ph.val z)
    (hown : w2.ownsRow w.heap.size 22 1 kv' (ks.length + 1) (ks.map Pc.val ++ [pk.val])) (hk : Kept wr w2 (fun k => kv.ownBlock = some k)) (hat : ∀ k, kv'.ownBlock = some k → kv.ownBlock = some k ∨ wr.heap.size ≤ k)
    (hown2 : w3.ownsRow w.heap.size 22 1 hv' (hs.length + 1) (hs.map Pc.val ++ [ph.val])) (hk2 : Kept w2 w3 (fun k => hv.ownBlock = some k)) (hat2 : ∀ k, hv'.ownBlock = some k → hv.ownBlock = some k ∨ w2.heap.size ≤ k) :
    ∃ hi', Rl w gr gd C E bs w3 kv' hv' (ks ++ [pk]) (hs ++ [ph]) (zs ++ [z]) hi' ∧ hi' + rest.length ≤ E ∧ Kept wr w3 (fun k => w.heap.size ≤ k) := by
  have hK : Kept wr w3 (fun k => kv.ownBlock = some k ∨ hv.ownBlock = some k) := (hk.mono (fun _ _ h => .inl h)).trans hk2 (fun _ _ h => .inr h)
  have hlow : ∀ k, (kv.ownBlock = some k ∨ hv.ownBlock = some k) → w.heap.size ≤ k := fun k e => by
    rcases e with e | e
    · exact (rows_row h.kept e).2.1
    · exact (rows_row h.whole e).2.1
  have hu8 : ∀ {x : Nat} {cs : Array Value} {T : TypeId} {fr : Nat × Nat}, wr.heap[x]? = some (.cells cs T fr) → T ≠ 22 → ¬ (kv.ownBlock = some x ∨ hv.ownBlock = some x) := fun hx hT e => by
    rcases e with e | e
    · exact ne_type hx (rows_row h.kept e).1.choose_spec hT rfl
    · exact ne_type hx (rows_row h.whole e).1.choose_spec hT rfl
  have hpn : pk.n = z.length := by
    obtain ⟨_, _, e, _⟩ := hsee
    unfold Pc.val at e
    simp only [Value.slice.injEq] at e
    exact e.2.1
  obtain ⟨hi', hh, hE, hnew⟩ : ∃ hi', hi ≤ hi' ∧ hi' + rest.length ≤ E ∧ (z ≠ [] → bs ≠ [] ∧ ∃ off, pk.ao = some ⟨C, off, none⟩ ∧ hi ≤ off ∧ off + z.length ≤ hi') := by
    by_cases hz : z = []
    · exact ⟨hi, Nat.le_refl _, hroom, fun h => absurd hz h⟩
    · obtain ⟨hb, off, e, h1, h2⟩ := hn hz
      unfold Pc.val at e
      simp only [Value.slice.injEq] at e
      exact ⟨off + z.length, by omega, by omega, fun _ => ⟨hb, off, e.1, h1, Nat.le_refl _⟩⟩
  have hsee3 : Kc w3 C hi' pk z := by
    refine ⟨hsee.kept' hK (fun hz k e e' => ?_), hpn, hcap, fun hz => ?_⟩
    · obtain ⟨hb, off, e1, _⟩ := hnew hz
      unfold Pc.val at e
      rw [e1] at e
      simp [Value.ownBlock] at e
      subst e
      have := (hc.c hb).1
      have := hlow _ e'
      omega
    · obtain ⟨_, off, e1, _, h2⟩ := hnew hz
      exact ⟨off, e1, h2⟩
  have hold : ∀ j (hj : j < zs.length) (hk : j < ks.length), Kc w3 C hi' ks[j] zs[j] := fun j hj hkj => by
    have q := h.kl j hj hkj
    refine ⟨q.sees.kept' hK (fun hz k e e' => ?_), q.n, q.cap, fun hz => ?_⟩
    · obtain ⟨off, e1, _⟩ := q.at' hz
      unfold Pc.val at e
      rw [e1] at e
      simp [Value.ownBlock] at e
      subst e
      have := (hc.c (h.zb _ (List.getElem_mem hj) hz)).1
      have := hlow _ e'
      omega
    · obtain ⟨off, e1, h2⟩ := q.at' hz
      exact ⟨off, e1, by omega⟩
  have hk0 := h.klen
  have hh0 := h.hlen
  refine ⟨hi',
  { crow := fun hb => by
      obtain ⟨cs, h1, h2⟩ := h.crow hb
      exact ⟨cs, hK.heap h1 (hu8 h1 (by decide)), h2⟩
    bag := hK.heap h.bag (hu8 h.bag (by decide))
    kept := by
      rw [List.length_append, List.map_append]
      refine ownsRow_same' hown hk2 (fun k e e' => ?_)
      rcases hat k e with q | q
      · exact h.kh k q e'
      · have := (rows_row h.whole e').2.2; omega
    whole := by rw [List.length_append, List.map_append]; exact hown2
    klen := by rw [List.length_append, List.length_append, hk0]; rfl
    hlen := by rw [List.length_append, List.length_append, hh0]; rfl
    kl := fun j hj hkj => by
      by_cases hj' : j < ks.length
      · have hz' : j < zs.length := by omega
        simp only [List.getElem_append_left hj', List.getElem_append_left hz']
        exact hold j hz' hj'
      · have e : j = ks.length := by rw [List.length_append] at hkj; simp at hkj; omega
        subst e
        have e2 : (zs ++ [z])[ks.length]'hj = z := by simp [hk0]
        rw [e2]
        simp only [List.getElem_append_right (Nat.le_refl _), Nat.sub_self, List.getElem_cons_zero]
        exact hsee3
    hl := fun j hj hkj => by
      by_cases hj' : j < hs.length
      · have hz' : j < zs.length := by omega
        simp only [List.getElem_append_left hj', List.getElem_append_left hz']
        exact Owns.kept (h.hl j hz' hj') hK (fun k e => hu8 (own_row (h.hl j hz' hj') e).1.choose_spec (by decide))
      · have e : j = hs.length := by rw [List.length_append] at hkj; simp at hkj; omega
        subst e
        have e2 : (zs ++ [z])[hs.length]'hj = z := by simp [hh0]
        rw [e2]
        simp only [List.getElem_append_right (Nat.le_refl _), Nat.sub_self, List.getElem_cons_zero]
        exact Owns.kept ho hK (fun k e => hu8 (own_row ho e).1.choose_spec (by decide))
    kh := fun k e e' => by
      rcases hat k e with q | q <;> rcases hat2 k e' with q' | q'
      · exact h.kh k q q'
      · have := (rows_row h.kept q).2.2; have := hk.size; omega
      · have := (rows_row h.whole q').2.2; omega
      · have := (rows_row hown e).2.2; omega
    ap := fun i j hi1 hj1 hne k x e1 e2 => by
      have hin : ∀ i, (hi : i < (ks ++ [pk]).length) → (i < ks.length) ∨ i = ks.length := fun i hi => by rw [List.length_append] at hi; simp at hi; omega
      have hpk : ∀ x, pk.foot k x → hi ≤ x := fun x hf => by
        obtain ⟨_, _, hz⟩ := hsee3.foot hf
        obtain ⟨_, off, e1, h1, _⟩ := hnew hz
        obtain ⟨o2, e2, h2, _⟩ := hf
        rw [e1] at e2
        simp only [Option.some.injEq, Addr.mk.injEq, and_true] at e2
        omega
      rcases hin i hi1 with hi' | hi' <;> rcases hin j hj1 with hj' | hj'
      · simp only [List.getElem_append_left hi'] at e1
        simp only [List.getElem_append_left hj'] at e2
        exact h.ap i j hi' hj' hne k x e1 e2
      · subst hj'
        simp only [List.getElem_append_left hi'] at e1
        simp only [List.getElem_append_right (Nat.le_refl _), Nat.sub_self, List.getElem_cons_zero] at e2
        have := ((h.kl i (by omega) hi').foot e1).2.1
        have := hpk x e2
        omega
      · subst hi'
        simp only [List.getElem_append_right (Nat.le_refl _), Nat.sub_self, List.getElem_cons_zero] at e1
        simp only [List.getElem_append_left hj'] at e2
        have := ((h.kl j (by omega) hj').foot e2).2.1
        have := hpk x e1
        omega
      · exact hne (hi'.trans hj'.symm)
    zb := fun y hy hne => by
      rcases List.mem_append.1 hy with hy | hy
      · exact h.zb y hy hne
      · simp at hy; subst hy; exact (hnew hne).1
    top := by omega
    rel := h.rel.trans hK (fun k hk' e => by have := hlow k e; omega) }, hE, hK.mono (fun k _ e => hlow k e)⟩

/-- What Apart of the lists that were kept asks for. -/
theorem Rl.bagged {ka : Option Addr} {kc N M : Nat} {bv pv : Value} (hc : Rc w gr gd C vd bs) (h : Rl w gr gd C E bs wr (.slice ka ks.length kc) hv ks hs zs hi) (hN : N = w.heap.size)
    (hbag : BagIs w3 N bv pv (ks.take 600) [⟨ka, ks.length, kc⟩] M) (hk : Kept wr w3 (fun k => k = N)) (hM : M ≤ w.heap.size) (hC : bs ≠ [] → M ≤ C) (hEm : E ≤ 70000000000000) :
    (∀ q ∈ ks.take 600, Lies w3 5 q) ∧ ApartPcs (ks.take 600) ∧ (∀ q ∈ ks.take 600, q.n ≤ 70000000000000) ∧ Lies w3 22 ⟨ka, ks.length, kc⟩ ∧ (∀ k x, feet (ks.take 600) k x → M ≤ k) ∧ (∀ k x, (⟨ka, ks.length, kc⟩ : Pc).foot k x → M ≤ k) ∧
      ∀ w4, Turned w3 w4 (fun k i => feet (ks.take 600) k i ∨ (⟨ka, ks.length, kc⟩ : Pc).foot k i) → Kept w w4 (fun k => k = gr ∨ k = gd ∨ (bs ≠ [] ∧ k = C)) := by
  subst hN
  have hfeet : ∀ k x, feet (ks.take 600) k x → bs ≠ [] ∧ k = C := fun k x ⟨q, hq, hf⟩ => by
    obtain ⟨j, hj, rfl⟩ := List.getElem_of_mem (List.mem_of_mem_take hq)
    have hjz : j < zs.length := by have := h.klen; omega
    have q := (h.kl j hjz hj).foot hf
    exact ⟨h.zb _ (List.getElem_mem hjz) q.2.2, q.1⟩
  have hkept : w3.ownsRow w.heap.size 22 1 (Pc.val ⟨ka, ks.length, kc⟩) ks.length (ks.map Pc.val) := ownsRow_same' h.kept hk (fun k e e' => ne_type (rows_row h.kept e).1.choose_spec h.bag (by decide) e')
  have hfoot : ∀ k x, (⟨ka, ks.length, kc⟩ : Pc).foot k x → w.heap.size ≤ k := fun k x hf => (rows_row hkept (foot_block hf)).2.1
  have hkc : ∀ q ∈ ks.take 600, ∃ z ∈ zs, Kc wr C hi q z := fun q hq => by
    obtain ⟨j, hj, rfl⟩ := List.getElem_of_mem (List.mem_of_mem_take hq)
    have hjz : j < zs.length := by have := h.klen; omega
    exact ⟨zs[j], List.getElem_mem hjz, h.kl j hjz hj⟩
  have htop := h.top
  refine ⟨fun q hq => ?_, fun i j hi hj hne k x h1 h2 => ?_, fun q hq => ?_, rows_lies hkept, fun k x hf => ?_, fun k x hf => Nat.le_trans hM (hfoot k x hf), fun w4 ht => ?_⟩
  · obtain ⟨z, hz, q1⟩ := hkc q hq
    have hn := q1.n
    have hcp := q1.cap
    have hmx : q.cap ≤ maxLen := by
      obtain ⟨_, _, e, h1, h2, _⟩ := q1.sees
      unfold Pc.val at e
      simp only [Value.slice.injEq] at e
      omega
    refine ⟨by omega, hmx, fun e => ?_, fun h0 => ?_⟩
    · by_cases hz0 : z = []
      · rw [hcp, hz0]; rfl
      · obtain ⟨off, e1, _⟩ := q1.at' hz0
        rw [e] at e1; cases e1
    · have hz0 : z ≠ [] := fun e => by rw [hcp, e] at h0; simp at h0
      obtain ⟨off, e1, h2⟩ := q1.at' hz0
      have hb := h.zb z hz hz0
      obtain ⟨cs, h3, h4⟩ := h.crow hb
      exact ⟨C, off, cs, e1, hk.heap h3 (fun e => by have := (hc.c hb).1; omega), by omega⟩
  · have hi' : i < ks.length := by rw [List.length_take] at hi; omega
    have hj' : j < ks.length := by rw [List.length_take] at hj; omega
    rw [List.getElem_take] at h1 h2
    exact h.ap i j hi' hj' hne k x h1 h2
  · obtain ⟨z, hz, q1⟩ := hkc q hq
    by_cases hz0 : z = []
    · rw [q1.n, hz0]; simp
    · obtain ⟨off, _, h2⟩ := q1.at' hz0
      rw [q1.n]; omega
  · obtain ⟨hb, rfl⟩ := hfeet k x hf
    exact hC hb
  · have hrel : Kept w w3 (fun k => k = gr ∨ k = gd ∨ (bs ≠ [] ∧ k = C)) := h.rel.trans hk (fun k hk' e => by omega)
    refine ⟨ht.os.trans hrel.os, ht.tape.trans hrel.tape, ht.output.trans hrel.output, Nat.le_trans hrel.size ht.size, fun k hk' hn => ?_⟩
    rw [ht.same k (Nat.lt_of_lt_of_le hk' hrel.size) (fun i e => ?_)]
    · exact hrel.block k hk' hn
    · rcases e with e | e
      · exact hn (.inr (.inr (hfeet k i e)))
      · have := hfoot k i e; omega
end
end Rz
end Go.Proofs.YtblgipjipeaemaaGreatDoor
