/- The program's Reader and the document's in step, and the lists that were kept: what stays; no function is walked here. -/
import Derived.Test.YtblgipjipeaemaaGreatDoorRzDJ
import Derived.Test.YtblgipjipeaemaaGreatDoorTells2J
namespace Go.Proofs.YtblgipjipeaemaaGreatDoor
open Go.RowKit
set_option maxRecDepth 8000
namespace Rz

theorem rdNum_rest (n : Nat) (xs : List Int) (f : Int) : (rdNum n xs f).rest.length ≤ xs.length := by
  unfold rdNum; split <;> (try split) <;> simp
theorem rdBool_rest (xs : List Int) (f : Int) : (rdBool xs f).rest.length ≤ xs.length := by
  unfold rdBool; (repeat' split) <;> simp
theorem rdFloat_rest (xs : List Int) (f : Int) : (rdFloat xs f).rest.length ≤ xs.length := by
  unfold rdFloat; (repeat' split) <;> simp
theorem rdRaw_rest (n : Int) (xs : List Int) (f : Int) : (rdRaw n xs f).1.length + (rdRaw n xs f).2.rest.length ≤ xs.length := by
  unfold rdRaw; (repeat' split) <;> simp <;> omega
theorem rdBuf_rest (n : Int) (xs : List Int) (f : Int) : (rdBuf n xs f).1.length + (rdBuf n xs f).2.rest.length ≤ xs.length := by
  unfold rdBuf; (repeat' split) <;> simp <;> omega

theorem ansA_len (kind n : Int) (xs : List Int) (f : Int) : (ansA kind n xs f).1.ys.length + (ansA kind n xs f).1.st.rest.length ≤ xs.length := by
  have h1 := rdNum_rest 1 xs f
  have h4 := rdNum_rest 4 xs f
  have h8 := rdNum_rest 8 xs f
  have hb := rdBool_rest xs f
  have hf := rdFloat_rest xs f
  have hu := rdBuf_rest n xs f
  have hr := rdRaw_rest n xs f
  unfold ansA
  split
  · unfold ansOf
    split <;> simp <;> omega
  · split
    · simp
    · split <;> simp

theorem ansA_x (kind n : Int) (xs : List Int) (f : Int) (hb : Byts xs) : (ansA kind n xs f).1.x < 18446744073709551616 := by
  have hf : (rdFloat xs f).out.toNat < 18446744073709551616 := by
    unfold rdFloat
    by_cases h0 : f ≠ 0
    · rw [if_pos h0]; show (0 : Int).toNat < _; decide
    · rw [if_neg h0]
      by_cases h1 : xs.length < 8
      · rw [if_pos h1]; show (0 : Int).toNat < _; decide
      · rw [if_neg h1]
        have hd := num_bd xs hb 8 (by omega)
        rw [show (256 : Int) ^ 8 = 18446744073709551616 by decide] at hd
        split
        · show (0 : Int).toNat < _; decide
        · show (num (xs.take 8)).toNat < _
          omega
  unfold ansA
  split
  · unfold ansOf
    split <;> first | exact hf | (show (0 : Nat) < _; omega)
  · split
    · show (0 : Nat) < _; omega
    · split <;> (show (0 : Nat) < _; omega)

theorem sees_turned {w w' : World} {S : Nat → Nat → Prop} {v : Value} {xs : List Int} (h : Sees w v xs) (ht : Turned w w' S) (hn : xs ≠ [] → ∀ b off c, v = .slice (some ⟨b, off, none⟩) xs.length c → ∀ i, i < xs.length → ¬ S b (off + i)) : Sees w' v xs := by
  obtain ⟨ao, cap, rfl, h1, h2, h0, h3⟩ := h
  refine ⟨ao, cap, rfl, h1, h2, h0, ?_⟩
  by_cases hx : xs = []
  · exact .inl hx
  · rcases h3 with h3 | ⟨b, off, rfl, h3⟩
    · exact .inl h3
    · exact .inr ⟨b, off, rfl, fun i hi => ht.cell (h3 i hi) (hn hx b off cap rfl i hi)⟩

/-- A list that was kept: its bytes, cut out of the Reader's own row ahead of place hi. -/
structure Kc (w : World) (C hi : Nat) (p : Pc) (z : List Int) : Prop where
  sees : Sees w p.val z
  n : p.n = z.length
  cap : p.cap = z.length
  at' : z ≠ [] → ∃ off, p.ao = some ⟨C, off, none⟩ ∧ off + z.length ≤ hi

/-- The blocks of two Readers, which are not one another's. -/
structure Rc (w : World) (gr gd C : Nat) (vd : Value) (bs : List Int) : Prop where
  r : gr < w.heap.size
  d : gd < w.heap.size
  rd : gr ≠ gd
  c : bs ≠ [] → C < w.heap.size ∧ C ≠ gr ∧ C ≠ gd
  far : bs ≠ [] → ∀ k, vd.ownBlock = some k → k < w.heap.size ∧ k ≠ gr ∧ k ≠ C
  byts : Byts bs

/-- What the Readers' own calls, and a list that is written over, leave of everything else. -/
structure Calm (wr w' : World) (gr gd C hi : Nat) (bs : List Int) : Prop where
  os : w'.os = wr.os
  tape : w'.tape = wr.tape
  output : w'.output = wr.output
  size : wr.heap.size ≤ w'.heap.size
  same : ∀ k, k < wr.heap.size → k ≠ gr → k ≠ gd → (bs ≠ [] → k ≠ C) → w'.heap[k]? = wr.heap[k]?
  row : bs ≠ [] → ∀ cs, wr.heap[C]? = some (.cells cs 5 (0, 0)) → ∃ cs', w'.heap[C]? = some (.cells cs' 5 (0, 0)) ∧ cs'.size = cs.size ∧ ∀ i, i < hi → cs'[i]? = cs[i]?

/-- The lists of the statement. -/
structure Rl (w : World) (gr gd C E : Nat) (bs : List Int) (wr : World) (kv hv : Value) (ks hs : List Pc) (zs : List (List Int)) (hi : Nat) : Prop where
  crow : bs ≠ [] → ∃ cs, wr.heap[C]? = some (.cells cs 5 (0, 0)) ∧ E ≤ cs.size
  bag : wr.heap[w.heap.size]? = some (.cells (bagCells nilS nilS) 73 (0, 0))
  kept : wr.ownsRow w.heap.size 22 1 kv ks.length (ks.map Pc.val)
  whole : wr.ownsRow w.heap.size 22 1 hv hs.length (hs.map Pc.val)
  klen : ks.length = zs.length
  hlen : hs.length = zs.length
  kl : ∀ j (_ : j < zs.length) (hk : j < ks.length), Kc wr C hi ks[j] zs[j]
  hl : ∀ j (_ : j < zs.length) (hk : j < hs.length), Owns wr w.heap.size hs[j].val zs[j]
  kh : ∀ k, kv.ownBlock = some k → hv.ownBlock ≠ some k
  ap : ApartPcs ks
  zb : ∀ z ∈ zs, z ≠ [] → bs ≠ []
  top : hi ≤ E
  rel : Kept w wr (fun k => k = gr ∨ k = gd ∨ (bs ≠ [] ∧ k = C))

section
variable {w wr w' w2 w3 : World} {gr gd C E hi p : Nat} {vd v kv hv u : Value} {bs xs ys rest : List Int} {ks hs : List Pc} {zs : List (List Int)} {f f' : Int}

theorem Calm.of_kept {P : Nat → Prop} (hc : Rc w gr gd C vd bs) (hk : Kept wr w' P) (hP : ∀ k, P k → k = gr ∨ k = gd) : Calm wr w' gr gd C hi bs :=
  ⟨hk.os, hk.tape, hk.output, hk.size, fun k hk' h1 h2 _ => hk.block k hk' (fun hp => by rcases hP k hp with h | h; exact h1 h; exact h2 h),
    fun hb cs hr => ⟨cs, hk.heap hr (fun hp => by have := hc.c hb; rcases hP _ hp with h | h; exact this.2.1 h; exact this.2.2 h), rfl, fun _ _ => rfl⟩⟩

theorem Calm.of_turned {S : Nat → Nat → Prop} (ht : Turned wr w' S) (hS : ∀ b i, S b i → bs ≠ [] ∧ b = C ∧ hi ≤ i) : Calm wr w' gr gd C hi bs :=
  ⟨ht.os, ht.tape, ht.output, ht.size, fun k hk _ _ h3 => ht.same k hk (fun i hs => h3 (hS k i hs).1 (hS k i hs).2.1),
    fun hb cs hr => by
      obtain ⟨cs', h1, h2, h3⟩ := ht.row C cs _ _ hr
      exact ⟨cs', h1, h2, fun i hi' => h3 i (fun hs => by have := (hS C i hs).2.2; omega)⟩⟩

theorem Kc.sees_at (h : Calm wr w' gr gd C hi bs) (hr : bs ≠ [] → ∃ cs, wr.heap[C]? = some (.cells cs 5 (0, 0))) {p : Pc} {z : List Int} (hz : z ≠ [] → bs ≠ []) (hk : Kc wr C hi p z) : Kc w' C hi p z := by
  refine ⟨?_, hk.n, hk.cap, hk.at'⟩
  by_cases hx : z = []
  · subst hx
    obtain ⟨ao, cap, e, h1, h2, h0, _⟩ := hk.sees
    exact ⟨ao, cap, e, h1, h2, h0, .inl rfl⟩
  · obtain ⟨off, e, hl⟩ := hk.at' hx
    obtain ⟨ao, cap, e1, h1, h2, h0, h3⟩ := hk.sees
    refine ⟨ao, cap, e1, h1, h2, h0, .inr ?_⟩
    rcases h3 with h3 | ⟨b, o, rfl, h3⟩
    · exact absurd h3 hx
    · unfold Pc.val at e1
      simp only [Value.slice.injEq] at e1
      rw [e1.1] at e
      simp only [Option.some.injEq, Addr.mk.injEq, and_true] at e
      obtain ⟨rfl, rfl⟩ := e
      refine ⟨b, o, rfl, fun i hi' => ?_⟩
      obtain ⟨cs, hcs⟩ := hr (hz hx)
      obtain ⟨cs', g1, _, g3⟩ := h.row (hz hx) cs hcs
      have q := h3 i hi'
      rw [cell_of_row _ b _ cs _ _ hcs] at q
      rw [cell_of_row _ b _ cs' _ _ g1, g3 _ (by omega)]
      exact q

theorem Rl.nil (h : Rl w gr gd C E bs wr kv hv ks hs zs hi) : w.heap.size < wr.heap.size := lt_of_block h.bag

theorem Rl.calm (hc : Rc w gr gd C vd bs) (h : Rl w gr gd C E bs wr kv hv ks hs zs hi) (q : Calm wr w' gr gd C hi bs) : Rl w gr gd C E bs w' kv hv ks hs zs hi := by
  have hr := hc.r
  have hd := hc.d
  have hN : ∀ k o, wr.heap[k]? = some o → w.heap.size ≤ k → w'.heap[k]? = wr.heap[k]? := fun k o ho hk => q.same k (lt_of_block ho) (by omega) (by omega) (fun hb => by have := (hc.c hb).1; omega)
  exact
  { crow := fun hb => by
      obtain ⟨cs, h1, h2⟩ := h.crow hb
      obtain ⟨cs', g1, g2, _⟩ := q.row hb cs h1
      exact ⟨cs', g1, by omega⟩
    bag := by rw [hN _ _ h.bag (Nat.le_refl _)]; exact h.bag
    kept := ownsRow_same h.kept (fun g o ho hg _ => hN g o ho hg)
    whole := ownsRow_same h.whole (fun g o ho hg _ => hN g o ho hg)
    klen := h.klen
    hlen := h.hlen
    kl := fun j hj hk => Kc.sees_at q (fun hb => by obtain ⟨cs, h1, _⟩ := h.crow hb; exact ⟨cs, h1⟩) (h.zb _ (List.getElem_mem hj)) (h.kl j hj hk)
    hl := fun j hj hk => ownsRow_same (h.hl j hj hk) (fun g o ho hg _ => hN g o ho hg)
    kh := h.kh
    ap := h.ap
    zb := h.zb
    top := h.top
    rel := ⟨q.os.trans h.rel.os, q.tape.trans h.rel.tape, q.output.trans h.rel.output, Nat.le_trans h.rel.size q.size, fun k hk hn => by
      rw [q.same k (Nat.lt_of_lt_of_le hk h.rel.size) (fun e => hn (.inl e)) (fun e => hn (.inr (.inl e))) (fun hb e => hn (.inr (.inr ⟨hb, e⟩)))]
      exact h.rel.block k hk hn⟩ }

theorem Rl.keep (hc : Rc w gr gd C vd bs) (h : Rl w gr gd C E bs wr kv hv ks hs zs hi) (hk : Kept wr w' (fun _ => False)) : Rl w gr gd C E bs w' kv hv ks hs zs hi := h.calm hc (.of_kept hc hk (fun _ h => h.elim))

/-- The two Readers. -/
structure Rp (gr gd C E : Nat) (vd : Value) (bs : List Int) (wr : World) (v : Value) (xs : List Int) (f : Int) (p : Nat) (fd : Int) (hi : Nat) : Prop where
  isR : IsR wr gr v xs f
  isQ : IsQ wr gd vd bs p fd
  pos : xs ≠ [] → ∃ off c, v = .slice (some ⟨C, off, none⟩) xs.length c ∧ off + xs.length = E
  room : hi + xs.length ≤ E
  some' : xs ≠ [] → bs ≠ []

theorem Rp.keep {fd : Int} (h : Rp gr gd C E vd bs wr v xs f p fd hi) (hk : Kept wr w' (fun _ => False)) : Rp gr gd C E vd bs w' v xs f p fd hi :=
  ⟨h.isR.kept hk (fun h => h) (fun _ _ h => h), h.isQ.kept hk (fun h => h) (fun _ _ h => h), h.pos, h.room, h.some'⟩

/-- Where an answer lies. -/
def NewCut (bs : List Int) (C E hi : Nat) (u : Value) (ys rest : List Int) : Prop := ys ≠ [] → bs ≠ [] ∧ ∃ off, u = .slice (some ⟨C, off, none⟩) ys.length ys.length ∧ hi ≤ off ∧ off + ys.length + rest.length ≤ E

theorem Rp.get {fd n0 : Int} (hc : Rc w gr gd C vd bs) (h : Rp gr gd C E vd bs wr v xs f p fd hi) (hcut : Cut w' v u ys rest) (hr : ReadsTo wr gr v ⟨n0, rest, f'⟩ w') (hl : ys.length + rest.length ≤ xs.length) :
    ∃ v', Rp gr gd C E vd bs w' v' rest f' p fd hi ∧ NewCut bs C E hi u ys rest ∧ Sees w' u ys ∧ (∃ ao, u = .slice ao ys.length ys.length) ∧ Kept wr w' (· = gr) := by
  obtain ⟨v', h1, ⟨_, h2⟩, h3⟩ := hr
  simp only at h1
  have hx : ∀ zs : List Int, zs ≠ [] → zs.length ≤ xs.length → xs ≠ [] := fun zs hz hle e => by
    have := List.length_pos_iff.2 hz
    rw [e] at hle; have h0 : zs.length = 0 := Nat.le_zero.1 hle; omega
  refine ⟨v', ⟨h1, ?_, fun hrn => ?_, by have := h.room; omega, fun hrn => h.some' (hx _ hrn (by omega))⟩, fun hyn => ?_, hcut.1, hcut.2.1, h3⟩
  · refine h.isQ.kept' h3 (fun e => hc.rd e.symm) (fun hb k hk e => (hc.far hb k hk).2.1 e)
  · obtain ⟨off, c, e, hE⟩ := h.pos (hx _ hrn (by omega))
    obtain ⟨o1, l1, c1, e1, _, h5⟩ := h2 C off xs.length c e
    obtain ⟨a2, c2, e2, _⟩ := h1.2
    rw [e1] at e2
    simp only [Value.slice.injEq] at e2
    obtain ⟨_, e3, _⟩ := e2
    subst e3
    have hp := List.length_pos_iff.2 hrn
    exact ⟨o1, c1, e1, by have := h5 (by omega); omega⟩
  · obtain ⟨off, c, e, hE⟩ := h.pos (hx _ hyn (by omega))
    obtain ⟨o1, e1, h5, h6⟩ := hcut.2.2.2 hyn C off xs.length c e
    have := h.room
    exact ⟨h.some' (hx _ hyn (by omega)), o1, e1, by omega, by omega⟩

theorem Rp.should {fd fd' n0 : Int} (hc : Rc w gr gd C vd bs) (h : Rp gr gd C E vd bs wr v xs f p fd hi) (hq : QTo wr gd vd bs ⟨n0, rest, fd'⟩ w') : ∃ p', bs.drop p' = rest ∧ Rp gr gd C E vd bs w' v xs f p' fd' hi ∧ Kept wr w' (· = gd) := by
  obtain ⟨p', e, h1, h2⟩ := hq
  refine ⟨p', e, ⟨?_, h1, h.pos, h.room, h.some'⟩, h2⟩
  refine h.isR.kept' h2 hc.rd (fun hx k hk e => ?_)
  obtain ⟨off, c, e1, _⟩ := h.pos hx
  rw [e1] at hk
  simp [Value.ownBlock] at hk
  subst hk
  exact (hc.c (h.some' hx)).2.2 e

theorem Rp.spoil {fd : Int} {S : Nat → Nat → Prop} (hc : Rc w gr gd C vd bs) (h : Rp gr gd C E vd bs wr v xs f p fd hi) (ht : Turned wr w' S) (hS : ∀ b i, S b i → bs ≠ [] ∧ b = C ∧ i + xs.length < E) : Rp gr gd C E vd bs w' v xs f p fd hi := by
  have hno : ∀ k, (bs ≠ [] → k ≠ C) → ∀ i, ¬ S k i := fun k hk i hs => hk (hS k i hs).1 (hS k i hs).2.1
  refine ⟨⟨?_, sees_turned h.isR.2 ht (fun hx b off c e i hi' hs => ?_)⟩, ⟨?_, sees_turned h.isQ.2.1 ht (fun hb b off c e i _ hs => ?_), h.isQ.2.2⟩, h.pos, h.room, h.some'⟩
  · rw [ht.same gr (lt_of_block h.isR.1) (hno gr (fun hb e => (hc.c hb).2.1 e.symm))]; exact h.isR.1
  · obtain ⟨o1, c1, e1, hE⟩ := h.pos hx
    rw [e1] at e
    simp only [Value.slice.injEq, Option.some.injEq, Addr.mk.injEq] at e
    have := (hS _ _ hs).2.2
    omega
  · rw [ht.same gd (lt_of_block h.isQ.1) (hno gd (fun hb e => (hc.c hb).2.2 e.symm))]; exact h.isQ.1
  · have q := hS _ _ hs
    exact (hc.far hb b (by rw [e]; rfl)).2.2 q.2.1

theorem Rp.above {fd : Int} {hi' : Nat} (h : Rp gr gd C E vd bs wr v xs f p fd hi) (hh : hi' + xs.length ≤ E) : Rp gr gd C E vd bs wr v xs f p fd hi' := ⟨h.isR, h.isQ, h.pos, hh, h.some'⟩
end
end Rz
end Go.Proofs.YtblgipjipeaemaaGreatDoor
