/- A request whose lists lie in blocks of their own, one behind the other; the lists that a Bag is given. No Go function is walked here. -/
import Derived.Test.YtoeialngbbfoeaaGreatDoorBqBJ
import Derived.Test.YtoeialngbbfoeaaGreatDoorChCJ
import Derived.Test.YtoeialngbbfoeaaGreatDoorEqQJ
namespace Go.Proofs.YtoeialngbbfoeaaGreatDoor
open Go.RowKit
set_option maxRecDepth 8000
set_option linter.unusedVariables false
set_option linter.unusedSimpArgs false

/-- Lists of all kinds, each in a block of its own between lo and hi. -/
structure LiesQ (w : World) (lo hi : Nat) (L : QL) : Prop where
  b : RowsIn w lo hi 5 1 L.b
  i : RowsIn w lo hi 103 2 L.i
  a : RowsIn w lo hi 105 3 L.a
  r : RowsIn w lo hi 33 11 L.r
  t : RowsIn w lo hi 35 16 L.t

section
variable {w w' : World} {lo mid hi lo' hi' : Nat} {L L' : QL}
theorem LiesQ.nil : LiesQ w lo hi QL.nil := ⟨RowsIn.nil, RowsIn.nil, RowsIn.nil, RowsIn.nil, RowsIn.nil⟩
theorem LiesQ.mono (h : LiesQ w lo hi L) (h1 : lo' ≤ lo) (h2 : hi ≤ hi') : LiesQ w lo' hi' L := ⟨h.b.mono h1 h2, h.i.mono h1 h2, h.a.mono h1 h2, h.r.mono h1 h2, h.t.mono h1 h2⟩
theorem LiesQ.add (h : LiesQ w lo mid L) (h' : LiesQ w mid hi L') (h1 : lo ≤ mid) (h2 : mid ≤ hi) : LiesQ w lo hi (L.add L') := ⟨h.b.append h'.b h1 h2, h.i.append h'.i h1 h2, h.a.append h'.a h1 h2, h.r.append h'.r h1 h2, h.t.append h'.t h1 h2⟩
theorem LiesQ.cut (h : LiesQ w lo hi L) : LiesQ w lo hi L.cut := ⟨h.b.take _, h.i.take _, h.a.take _, h.r.take _, h.t.take _⟩
theorem LiesQ.kept {S : Nat → Prop} (h : LiesQ w lo hi L) (hk : Kept w w' S) (hS : ∀ k, lo ≤ k → k < hi → ¬ S k) : LiesQ w' lo hi L := ⟨h.b.kept hk hS, h.i.kept hk hS, h.a.kept hk hS, h.r.kept hk hS, h.t.kept hk hS⟩
theorem liesQ_b {v : Value} {n : Nat} {xs : List Value} (h : w.ownsRow lo 5 1 v n xs) (hn : n ≤ 1000000000) (hh : ∀ g, v.ownBlock = some g → g < hi) : LiesQ w lo hi ⟨[v], [], [], [], []⟩ := ⟨RowsIn.one h hn hh, RowsIn.nil, RowsIn.nil, RowsIn.nil, RowsIn.nil⟩
theorem liesQ_i {v : Value} {n : Nat} {xs : List Value} (h : w.ownsRow lo 103 2 v n xs) (hn : n ≤ 1000000000) (hh : ∀ g, v.ownBlock = some g → g < hi) : LiesQ w lo hi ⟨[], [v], [], [], []⟩ := ⟨RowsIn.nil, RowsIn.one h hn hh, RowsIn.nil, RowsIn.nil, RowsIn.nil⟩
theorem liesQ_a {v : Value} {n : Nat} {xs : List Value} (h : w.ownsRow lo 105 3 v n xs) (hn : n ≤ 1000000000) (hh : ∀ g, v.ownBlock = some g → g < hi) : LiesQ w lo hi ⟨[], [], [v], [], []⟩ := ⟨RowsIn.nil, RowsIn.nil, RowsIn.one h hn hh, RowsIn.nil, RowsIn.nil⟩
theorem liesQ_r {v : Value} {n : Nat} {xs : List Value} (h : w.ownsRow lo 33 11 v n xs) (hn : n ≤ 1000000000) (hh : ∀ g, v.ownBlock = some g → g < hi) : LiesQ w lo hi ⟨[], [], [], [v], []⟩ := ⟨RowsIn.nil, RowsIn.nil, RowsIn.nil, RowsIn.one h hn hh, RowsIn.nil⟩
end

/-- The cells cs are those of the request r; its lists lie in blocks of their own between lo and hi, one behind the other. -/
inductive OwnQ (w : World) : Nat → Nat → List Value → Rq → Prop where
  | mk (f : RqF) (n : Nat) (ops : Fin n → Rq) (dv av wv ov : Value) (oc : Fin n → List Value) (fl : List Value) (lo hi m1 m2 m3 : Nat) (M : Nat → Nat)
      (hd : Owns w lo dv f.data) (ha : w.ownsRow m1 105 3 av (f.acl.map EnD.cells).length (f.acl.map EnD.cells).flatten) (hw : w.ownsRow m2 103 2 wv (f.who.map IdD.cells).length (f.who.map IdD.cells).flatten)
      (ho : w.ownsRow m3 33 11 ov n fl) (hf : ∀ (i : Fin n) j, j < 11 → fl[i.1 * 11 + j]? = some ((oc i).getD j (.bool false)))
      (sh : f.data.length ≤ 1000000000 ∧ f.acl.length ≤ 1000000000 ∧ f.who.length ≤ 1000000000 ∧ n ≤ 1000000000)
      (bd : ∀ k, dv.ownBlock = some k → k < m1) (ba : ∀ k, av.ownBlock = some k → k < m2) (bw : ∀ k, wv.ownBlock = some k → k < m3) (bo : ∀ k, ov.ownBlock = some k → k < M 0)
      (o1 : lo ≤ m1 ∧ m1 ≤ m2 ∧ m2 ≤ m3 ∧ m3 ≤ M 0 ∧ M n ≤ hi) (om : ∀ i, i < n → M i ≤ M (i + 1))
      (hs : ∀ i : Fin n, OwnQ w (M i.1) (M (i.1 + 1)) (oc i) (ops i)) : OwnQ w lo hi (rqCells f dv av wv ov) (.mk f n ops)

theorem mono_upQ {M : Nat → Nat} {n : Nat} (om : ∀ i, i < n → M i ≤ M (i + 1)) : ∀ a b, a ≤ b → b ≤ n → M a ≤ M b := fun a b => by
  induction b with
  | zero => intro h _; rw [Nat.le_zero.mp h]; exact Nat.le_refl _
  | succ b ih =>
    intro h1 h2
    by_cases e : a = b + 1
    · subst e; exact Nat.le_refl _
    · exact Nat.le_trans (ih (by omega) (by omega)) (om b (by omega))

theorem OwnQ.mono {w : World} {lo hi lo' hi' : Nat} {cs : List Value} {r : Rq} (h : OwnQ w lo hi cs r) (h1 : lo' ≤ lo) (h2 : hi ≤ hi') : OwnQ w lo' hi' cs r := by
  cases h with
  | mk f n ops dv av wv ov oc fl lo hi m1 m2 m3 M hd ha hw ho hf sh bd ba bw bo o1 om hs =>
    exact .mk f n ops dv av wv ov oc fl lo' hi' m1 m2 m3 M (row_lo hd (fun g hg => Nat.le_trans h1 (row_base hd hg))) ha hw ho hf sh bd ba bw bo ⟨by omega, o1.2.1, o1.2.2.1, o1.2.2.2.1, by omega⟩ om hs

theorem OwnQ.kept {w w' : World} {S : Nat → Prop} (hk : Kept w w' S) {lo hi : Nat} {cs : List Value} {r : Rq} (h : OwnQ w lo hi cs r) : (∀ k, lo ≤ k → k < hi → ¬ S k) → OwnQ w' lo hi cs r := by
  induction h with
  | mk f n ops dv av wv ov oc fl lo hi m1 m2 m3 M hd ha hw ho hf sh bd ba bw bo o1 om hs ih =>
    intro hS
    have h0n := mono_upQ om 0 n (Nat.zero_le _) (Nat.le_refl _)
    refine .mk f n ops dv av wv ov oc fl lo hi m1 m2 m3 M (row_kept hd hk (fun g hg => ?_)) (row_kept ha hk (fun g hg => ?_)) (row_kept hw hk (fun g hg => ?_)) (row_kept ho hk (fun g hg => ?_)) hf sh bd ba bw bo o1 om (fun i => ih i (fun k k1 k2 => ?_))
    · have := row_base hd hg; have := bd g hg; exact hS g (by omega) (by omega)
    · have := row_base ha hg; have := ba g hg; exact hS g (by omega) (by omega)
    · have := row_base hw hg; have := bw g hg; exact hS g (by omega) (by omega)
    · have := row_base ho hg; have := bo g hg; exact hS g (by omega) (by omega)
    · have e1 := mono_upQ om 0 i.1 (Nat.zero_le _) (by omega)
      have e2 := mono_upQ om (i.1 + 1) n (by omega) (Nat.le_refl _)
      exact hS k (by omega) (by omega)

theorem en_lenQ (l : List EnD) : ∀ c ∈ l.map EnD.cells, c.length = 3 := fun c hc => by
  obtain ⟨x, _, rfl⟩ := List.mem_map.1 hc; rfl
theorem id_lenQ (l : List IdD) : ∀ c ∈ l.map IdD.cells, c.length = 2 := fun c hc => by
  obtain ⟨x, _, rfl⟩ := List.mem_map.1 hc; rfl

/-- A row whose elements' cells are these, seen. -/
theorem seesR_flQ {w : World} {base n z : Nat} {t : TypeId} {v : Value} {fl : List Value} {oc : Fin n → List Value} (h : w.ownsRow base t z v n fl) (hf : ∀ (i : Fin n) j, j < z → fl[i.1 * z + j]? = some ((oc i).getD j (.bool false))) : SeesR w v z (List.ofFn oc) := by
  rcases h.2 with ⟨rfl, h0⟩ | ⟨g, cap, cur, rfl, h1, h2, h3, h4, h5, h6⟩
  · subst h0
    exact ⟨none, 0, by simp, by simp, by unfold maxLen; omega, fun _ => rfl, .inl (by simp)⟩
  · refine ⟨_, cap, by rw [List.length_ofFn], by rw [List.length_ofFn]; exact h3, h4, fun e => by simp at e, .inr ⟨g, 0, rfl, fun i hi j hj => ?_⟩⟩
    rw [List.length_ofFn] at hi
    have hfl : fl.length = n * z := h.1
    have hlt : i * z + j < n * z := by
      have := Nat.mul_le_mul_right z (show i + 1 ≤ n from hi)
      rw [Nat.add_mul, Nat.one_mul] at this
      omega
    rw [Nat.zero_add, h.cellAt _ hlt, hf ⟨i, hi⟩ j hj]
    simp

theorem OwnQ.sees {w : World} {lo hi : Nat} {cs : List Value} {r : Rq} (h : OwnQ w lo hi cs r) : SeesRq w cs r := by
  induction h with
  | mk f n ops dv av wv ov oc fl lo hi m1 m2 m3 M hd ha hw ho hf sh bd ba bw bo o1 om hs ih =>
    exact .mk f n ops dv av wv ov oc (Sees.own hd) (seesR_own ha (en_lenQ _)) (seesR_own hw (id_lenQ _)) (seesR_flQ ho hf) ih

end Go.Proofs.YtoeialngbbfoeaaGreatDoor
