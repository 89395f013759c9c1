/- DiskGiven: lists of files with the same data; a base that lies apart; no Go function is walked here but EqFiles. -/
import Derived.Test.YtdhnbgeijfgfaaaGreatDoorDvAJ
import Derived.Test.YtdhnbgeijfgfaaaGreatDoorReCJ
import Derived.Test.YtdhnbgeijfgfaaaGreatDoorTurnJ
import Derived.WalkKit
import Derived.Laws.BitsLemmas
namespace Go.Proofs.YtdhnbgeijfgfaaaGreatDoor
open Go.RowKit Go.Shelf
set_option maxRecDepth 8000

/-- The files of a wide list. -/
def wideK (l : List FlK) (bk : Nat → Nat) : List FlK := l.mapIdx fun j o => { o with pa := some ⟨bk j, 0, none⟩, pc := o.p.length + 64 }
theorem wideK_len (l : List FlK) (bk : Nat → Nat) : (wideK l bk).length = l.length := by simp [wideK]
theorem wideK_get (l : List FlK) (bk : Nat → Nat) (i : Nat) (h : i < (wideK l bk).length) : (wideK l bk)[i] = { (l[i]'(by rw [wideK_len] at h; exact h)) with pa := some ⟨bk i, 0, none⟩, pc := (l[i]'(by rw [wideK_len] at h; exact h)).p.length + 64 } := by simp [wideK]
theorem wideK_fi (l : List FlK) (bk : Nat → Nat) : (wideK l bk).map FlK.fi = l.map FlK.fi := by
  apply List.ext_getElem
  · simp [wideK_len]
  · intro i h1 h2
    rw [List.getElem_map, List.getElem_map, wideK_get]
    rfl

theorem WdF.sees {w : World} {N : Nat} {l : List FlK} {bk : Nat → Nat} {cs : List Value} (h : WdF w N l bk (l.length + 64) cs) (hl : l.length ≤ 3000000000) (hp : ∀ o ∈ l, o.p.length ≤ 70000000000000) (hg : ∀ o ∈ l, o.name.size ≤ 140737488355328 ∧ -9223372036854775808 ≤ o.dur ∧ o.dur ≤ 9223372036854775807) :
    SeesFls w w.heap.size (.slice (some ⟨N, 0, none⟩) l.length (l.length + 64)) (wideK l bk) := by
  refine ⟨⟨some ⟨N, 0, none⟩, l.length + 64, by rw [wideK_len], by rw [wideK_len]; omega, by unfold maxLen; omega, ?_⟩, fun o ho => ?_⟩
  · refine .inr ⟨N, 0, rfl, h.lt, fun i hi j x hj => ?_⟩
    have hi' : i < l.length := by rw [wideK_len] at hi; exact hi
    rw [wideK_get] at hj
    obtain ⟨a0, a1, a2⟩ := h.cells i (by omega)
    rw [cellF_in hi'] at a0 a1 a2
    simp only at a0 a1 a2
    have hc : ∀ m, w.cell? ⟨N, m, none⟩ = w.cell? ⟨N, m, none⟩ := fun _ => rfl
    rw [Nat.zero_add]
    match j, hj with
    | 0, hj =>
      simp only [FlK.cells, List.getElem?_cons_zero, Option.some.injEq] at hj
      subst hj
      rw [Nat.add_zero, h.own.cellAt _ (by omega), a0]
    | 1, hj =>
      simp only [FlK.cells, List.getElem?_cons_zero, List.getElem?_cons_succ, Option.some.injEq] at hj
      subst hj
      rw [h.own.cellAt _ (by omega), a1]
    | 2, hj =>
      simp only [FlK.cells, List.getElem?_cons_zero, List.getElem?_cons_succ, Option.some.injEq] at hj
      subst hj
      rw [h.own.cellAt _ (by omega), a2]
    | j + 3, hj => simp [FlK.cells] at hj
  · obtain ⟨i, hi, rfl⟩ := List.getElem_of_mem ho
    have hi' : i < l.length := by rw [wideK_len] at hi; exact hi
    rw [wideK_get]
    have hb := h.bytes i hi' (by omega)
    have hs := sees_prefix (n := l[i].p.length) hb (by rw [wide_len]; omega)
    rw [wide_take] at hs
    have hm := List.getElem_mem hi'
    exact ⟨hs, by have := hp _ hm; show l[i].p.length ≤ _; omega, (hg _ hm).1, fun _ k e => by simp [FlK.pv, Value.ownBlock] at e; subst e; exact (hb.lt (bk i) rfl).2, (hg _ hm).2.1, (hg _ hm).2.2⟩

theorem fi_at {l l' : List FlK} (he : l'.map FlK.fi = l.map FlK.fi) (i : Nat) (h : i < l.length) (h' : i < l'.length) : l'[i].name = l[i].name ∧ l'[i].p = l[i].p ∧ l'[i].dur = l[i].dur := by
  have h1 : (l'.map FlK.fi)[i]'(by rw [List.length_map]; exact h') = (l.map FlK.fi)[i]'(by rw [List.length_map]; exact h) := by simp only [he]
  rw [List.getElem_map, List.getElem_map] at h1
  unfold FlK.fi at h1
  simp only [FiD.mk.injEq] at h1
  exact h1

set_option maxHeartbeats 1000000 in
theorem eqFls_any {w : World} {n m : Nat} {v u : Value} {l l' : List FlK} (h1 : SeesFls w n v l') (h2 : SeesFls w m u l) (he : l'.map FlK.fi = l.map FlK.fi) (hlen : l.length ≤ 3000000000) :
    Calls Tryz.prog 9 #[v, u] w fun e w' => e = .returned (.bool true) ∧ ∃ q, w' = w.drewN q := by
  have hll : l'.length = l.length := by have := congrArg List.length he; simpa using this
  obtain ⟨⟨a1, c1, rfl, hc1, hm1, h3⟩, g1⟩ := h1
  obtain ⟨⟨a2, c2, rfl, hc2, hm2, h4⟩, g2⟩ := h2
  have H : Hid ((l' = [] ∨ ∃ b off, a1 = some ⟨b, off, none⟩ ∧ b < n ∧ ∀ (i : Nat) (h : i < l'.length), w.rangeAt b (off + i * 3) l'[i].cells) ∧ (l = [] ∨ ∃ b off, a2 = some ⟨b, off, none⟩ ∧ b < m ∧ ∀ (i : Nat) (h : i < l.length), w.rangeAt b (off + i * 3) l[i].cells) ∧ (∀ o ∈ l', GoodFl w n o) ∧ (∀ o ∈ l, GoodFl w m o) ∧ l'.map FlK.fi = l.map FlK.fi) := ⟨h3, h4, g1, g2, he⟩
  clear h3 h4 g1 g2 he
  obtain ⟨N, hN⟩ : ∃ N, N = l.length := ⟨_, rfl⟩
  have HN : Hid (N = l.length ∧ l'.length = l.length) := ⟨hN, hll⟩
  rw [hll] at hc1 ⊢
  rw [← hN] at hlen hc1 hc2 ⊢
  unfold maxLen at hm1 hm2
  clear hN hll
  go_enter Tryz.func9, Tryz.ntmps9
  go_wp2_with fail
  go_loopw [5] (fun vi wx => ∃ i : Nat, i ≤ N ∧ vi = .int .i64 i ∧ Hid (∃ q, wx = w.drewN q)) (fun vi _ => N - (intOf vi).toNat)
  case atStart => exact ⟨0, Nat.zero_le _, rfl, ⟨0, rfl⟩⟩
  case round =>
    obtain ⟨i, hi, rfl, HW⟩ := hrel
    have hbw : Below w.heap.size w wr := by
      obtain ⟨q, rfl⟩ := HW.out
      exact below_drewN (Below.refl _ _) q
    by_cases hlt : i < N
    · have hlt1 : i < l.length := by rw [← HN.out.1]; exact hlt
      have hlt2 : i < l'.length := by rw [HN.out.2]; exact hlt1
      obtain ⟨b1, o1, rfl, r1⟩ : ∃ b off, a1 = some ⟨b, off, none⟩ ∧ wr.rangeAt b (off + i * 3) l'[i].cells := by
        rcases H.out.1 with h3 | ⟨b, off, e, _, h3⟩
        · rw [h3] at hlt2; simp at hlt2
        · exact ⟨b, off, e, fun j x hj => (Below.kept hbw).cell (h3 i hlt2 j x hj) (fun e => by have e' : w.heap.size ≤ b := e; have := World.block_lt_of_cell? w _ (h3 i hlt2 j x hj); simp at this; omega)⟩
      obtain ⟨b2, o2, rfl, r2⟩ : ∃ b off, a2 = some ⟨b, off, none⟩ ∧ wr.rangeAt b (off + i * 3) l[i].cells := by
        rcases H.out.2.1 with h3 | ⟨b, off, e, _, h3⟩
        · rw [h3] at hlt1; simp at hlt1
        · exact ⟨b, off, e, fun j x hj => (Below.kept hbw).cell (h3 i hlt1 j x hj) (fun e => by have e' : w.heap.size ≤ b := e; have := World.block_lt_of_cell? w _ (h3 i hlt1 j x hj); simp at this; omega)⟩
      obtain ⟨e1, e2, e3⟩ := fi_at H.out.2.2.2.2 i hlt1 hlt2
      have x0 := r1 0 _ rfl
      have x1 := r1 1 _ rfl
      have x2 := r1 2 _ rfl
      have y0 := r2 0 _ rfl
      have y1 := r2 1 _ rfl
      have y2 := r2 2 _ rfl
      rw [Nat.add_zero] at x0 y0
      have s1 := (H.out.2.2.1 l'[i] (List.getElem_mem hlt2)).see
      have s2 := (H.out.2.2.2.1 l[i] (List.getElem_mem hlt1)).see
      unfold FlK.pv at s1 s2
      rw [e1] at x0
      rw [e2] at x1 s1
      rw [e3] at x2
      have HEQ : Hid (∀ m, Calls Tryz.prog 15 #[.slice l'[i].pa l[i].p.length l'[i].pc, .slice l[i].pa l[i].p.length l[i].pc] (wr.drewN m) fun e w' => e = .returned (.bool true) ∧ ∃ n, w' = (wr.drewN m).drewN n) := fun m => by
        have h1 := eqBytes_any _ _ _ _ (wr.drewN m) (s1.below (below_drewN hbw m) (Nat.le_refl _)) (s2.below (below_drewN hbw m) (Nat.le_refl _))
        rw [decide_eq_true rfl] at h1
        exact h1
      generalize l[i].p.length = L at *
      generalize l[i].name = nm at *
      generalize l[i].dur = du at *
      generalize l'[i].pa = pa1 at *
      generalize l'[i].pc = pc1 at *
      generalize l[i].pa = pa2 at *
      generalize l[i].pc = pc2 at *
      clear r1 r2 s1 s2 e1 e2 e3 hbw
      go_wp2_with fail
      go_quiet ((go_at_call 15; exact Calls.quiet_of (HEQ.out _)))
      go_wp2_with fail
      go_roundw
      case rel => exact ⟨i + 1, by omega, by go_num, ⟨HW.out.choose + nq, by rw [← World.drewN_drewN, ← HW.out.choose_spec]⟩⟩
      case measure => simp [intOf]; omega
    · obtain rfl : i = N := by omega
      go_wp2_with fail
      go_ret
      exact ⟨rfl, HW.out⟩

/-- Another base of the same size, where only what lies below it has changed. -/
theorem Both.rebase {w0 w w' : World} {p q : Nat} {D : DkD} {R : RD} {k : Nat} {S : Nat → Prop} (h : Both w0 w p q D R k) (hk : Kept w w' S) (hS : ∀ j, S j → j < w0.heap.size) :
    ∃ w1, w1.heap.size = w0.heap.size ∧ Both w1 w' p q D R k ∧ ∀ n a, Below n a w' → n ≤ w0.heap.size → a.heap.size ≤ w0.heap.size → Below n a w1 := by
  have hsz : w0.heap.size ≤ w'.heap.size := Nat.le_trans h.bel.size hk.size
  have h1 : ({ w' with heap := w'.heap.extract 0 w0.heap.size } : World).heap.size = w0.heap.size := by
    show (w'.heap.extract 0 w0.heap.size).size = _
    rw [Array.size_extract]; omega
  have h2 : ∀ k, k < w0.heap.size → ({ w' with heap := w'.heap.extract 0 w0.heap.size } : World).heap[k]? = w'.heap[k]? := fun k hk => by
    show (w'.heap.extract 0 w0.heap.size)[k]? = _
    rw [Array.getElem?_extract]
    simp
    omega
  obtain ⟨fv, ms, rv, vs, i1, i2, hap, h4, h5⟩ := h.ex
  refine ⟨{ w' with heap := w'.heap.extract 0 w0.heap.size }, h1, ⟨⟨fv, ms, rv, vs, i1.kept hk (fun j hj e => by have := h4 j hj; have := hS j e; omega), i2.kept hk (fun j hj e => by have := h5 j hj; have := hS j e; omega), hap, by rw [h1]; exact h4, by rw [h1]; exact h5⟩, h.ok, h.calm, h.play, h.more, h.writes, ⟨rfl, rfl, rfl, by rw [h1]; exact hsz, fun k hk => by rw [h1] at hk; exact (h2 k hk).symm⟩⟩, fun n a hb hn ha => ⟨hb.os, hb.tape, hb.output, by rw [h1]; exact ha, fun k hk => by rw [h2 k (by omega)]; exact hb.block k hk⟩⟩
end Go.Proofs.YtdhnbgeijfgfaaaGreatDoor

/- Quorums as data: the weight of a set in each group, what a quorum is, and what follows; no Go function is walked here. -/
namespace Go.Proofs.YtdhnbgeijfgfaaaGreatDoor
open Go.RowKit
set_option maxRecDepth 8000

/-- The sum of the first ones. -/
def sumQ (f : Nat → Int) : Nat → Int
  | 0 => 0
  | n + 1 => sumQ f n + f n

theorem sumQ_le {f g : Nat → Int} {n : Nat} (h : ∀ i, i < n → f i ≤ g i) : sumQ f n ≤ sumQ g n := by
  induction n with
  | zero => exact Int.le_refl _
  | succ n ih =>
    have h1 := ih (fun i hi => h i (by omega))
    have h2 := h n (by omega)
    show sumQ f n + f n ≤ sumQ g n + g n
    omega
theorem sumQ_congr {f g : Nat → Int} {n : Nat} (h : ∀ i, i < n → f i = g i) : sumQ f n = sumQ g n :=
  Int.le_antisymm (sumQ_le fun i hi => Int.le_of_eq (h i hi)) (sumQ_le fun i hi => Int.le_of_eq (h i hi).symm)
theorem sumQ_zero (n : Nat) : sumQ (fun _ => 0) n = 0 := by
  induction n with
  | zero => rfl
  | succ n ih => show sumQ _ n + 0 = 0; rw [ih]; rfl
theorem sumQ_nonneg {f : Nat → Int} {n : Nat} (h : ∀ i, i < n → 0 ≤ f i) : 0 ≤ sumQ f n := by
  have := sumQ_le (f := fun _ => 0) h
  rwa [sumQ_zero] at this
theorem sumQ_most {f : Nat → Int} {n : Nat} (c : Int) (h : ∀ i, i < n → f i ≤ c) : sumQ f n ≤ n * c := by
  induction n with
  | zero => simp [sumQ]
  | succ n ih =>
    have h1 := ih (fun i hi => h i (by omega))
    have h2 := h n (by omega)
    show sumQ f n + f n ≤ _
    rw [Int.natCast_succ, Int.add_mul]
    omega
theorem sumQ_add (f g : Nat → Int) (n : Nat) : sumQ f n + sumQ g n = sumQ (fun i => f i + g i) n := by
  induction n with
  | zero => rfl
  | succ n ih => show sumQ f n + f n + (sumQ g n + g n) = sumQ _ n + (f n + g n); rw [← ih]; omega
theorem sumQ_pos {f : Nat → Int} {n : Nat} (h : ∀ i, i < n → 0 ≤ f i) {j : Nat} (hj : j < n) (hp : 0 < f j) : 0 < sumQ f n := by
  induction n with
  | zero => omega
  | succ n ih =>
    show 0 < sumQ f n + f n
    have h1 := sumQ_nonneg (fun i (hi : i < n) => h i (by omega))
    have h2 := h n (by omega)
    by_cases e : j = n
    · subst e; omega
    · have := ih (fun i hi => h i (by omega)) (by omega); omega
/-- Some one is more. -/
theorem sumQ_some {f g : Nat → Int} {n : Nat} (h : sumQ g n < sumQ f n) : ∃ i, i < n ∧ g i < f i :=
  Classical.byContradiction fun hn => absurd (sumQ_le (f := f) (g := g) fun i hi => by
    by_cases e : g i < f i
    · exact absurd ⟨i, hi, e⟩ hn
    · omega) (by omega)

/-- A system: servers, weights, groups. -/
structure SyD where
  n : Nat
  ws : Nat → Int
  gs : Nat → Nat

structure SyD.Good (D : SyD) : Prop where
  n1 : 1 ≤ D.n
  n7 : D.n ≤ 7
  w0 : ∀ i, 0 ≤ D.ws i
  w1 : ∀ i, D.ws i ≤ 100
  g6 : ∀ i, D.gs i ≤ 6
  one : ∃ i, i < D.n ∧ 0 < D.ws i

/-- The weight of a set's servers in a group, among the first k. -/
def SyD.part (D : SyD) (S : Nat → Bool) (g k : Nat) : Int := sumQ (fun i => if S i = true ∧ D.gs i = g then D.ws i else 0) k
/-- The weight of a group, among the first k. -/
def SyD.whole (D : SyD) (g k : Nat) : Int := sumQ (fun i => if D.gs i = g then D.ws i else 0) k
/-- How many groups count. -/
def SyD.cnt (D : SyD) (k : Nat) : Int := sumQ (fun g => if 0 < D.whole g D.n then 1 else 0) k
/-- How many groups a set holds. -/
def SyD.held (D : SyD) (S : Nat → Bool) (k : Nat) : Int := sumQ (fun g => if D.whole g D.n < 2 * D.part S g D.n then 1 else 0) k
/-- Is a set a quorum? -/
def SyD.has (D : SyD) (S : Nat → Bool) : Bool := decide (D.cnt 7 < 2 * D.held S 7)

theorem SyD.part_nonneg {D : SyD} (h : D.Good) (S : Nat → Bool) (g k : Nat) : 0 ≤ D.part S g k := sumQ_nonneg fun i _ => by
  have := h.w0 i
  split <;> omega
theorem SyD.part_le {D : SyD} (h : D.Good) (S : Nat → Bool) (g k : Nat) : D.part S g k ≤ D.whole g k := sumQ_le fun i _ => by
  have := h.w0 i
  by_cases e : D.gs i = g <;> simp [e] <;> split <;> omega
theorem SyD.whole_le {D : SyD} (h : D.Good) (g k : Nat) : D.whole g k ≤ k * 100 := sumQ_most 100 fun i _ => by
  have := h.w1 i
  split <;> omega
theorem SyD.whole_nonneg {D : SyD} (h : D.Good) (g k : Nat) : 0 ≤ D.whole g k := Int.le_trans (D.part_nonneg h (fun _ => false) g k) (D.part_le h _ g k)
theorem SyD.cnt_bounds (D : SyD) (k : Nat) : 0 ≤ D.cnt k ∧ D.cnt k ≤ k := by
  refine ⟨sumQ_nonneg fun i _ => by split <;> omega, ?_⟩
  have := sumQ_most (f := fun g => if 0 < D.whole g D.n then 1 else 0) (n := k) 1 (fun i _ => by split <;> omega)
  rw [Int.mul_one] at this
  exact this
theorem SyD.held_bounds (D : SyD) (S : Nat → Bool) (k : Nat) : 0 ≤ D.held S k ∧ D.held S k ≤ k := by
  refine ⟨sumQ_nonneg fun i _ => by split <;> omega, ?_⟩
  have := sumQ_most (f := fun g => if D.whole g D.n < 2 * D.part S g D.n then 1 else 0) (n := k) 1 (fun i _ => by split <;> omega)
  rw [Int.mul_one] at this
  exact this
theorem SyD.part_mono {D : SyD} (h : D.Good) {S T : Nat → Bool} (hs : ∀ i, i < D.n → S i = true → T i = true) (g : Nat) : D.part S g D.n ≤ D.part T g D.n := sumQ_le fun i hi => by
  have h0 := h.w0 i
  have h1 := hs i hi
  by_cases e : S i = true
  · rw [h1 e, e]; exact Int.le_refl _
  · rw [if_neg (fun q => e q.1)]; split <;> omega
/-- What holds a quorum is one. -/
theorem SyD.has_mono {D : SyD} (h : D.Good) {S T : Nat → Bool} (hs : ∀ i, i < D.n → S i = true → T i = true) (hh : D.has S = true) : D.has T = true := by
  have : D.held S 7 ≤ D.held T 7 := sumQ_le fun g _ => by
    have := D.part_mono h hs g
    split <;> split <;> omega
  unfold SyD.has at *
  simp at *
  omega
theorem SyD.has_congr {D : SyD} {S T : Nat → Bool} (hs : ∀ i, i < D.n → S i = T i) : D.has S = D.has T := by
  have : ∀ g, D.part S g D.n = D.part T g D.n := fun g => sumQ_congr fun i hi => by rw [hs i hi]
  have : D.held S 7 = D.held T 7 := sumQ_congr fun g _ => by rw [this]
  unfold SyD.has
  rw [this]
/-- Two quorums have a server in common that counts. -/
theorem SyD.meet {D : SyD} (h : D.Good) {A B : Nat → Bool} (ha : D.has A = true) (hb : D.has B = true) : ∃ i, i < D.n ∧ A i = true ∧ B i = true ∧ 0 < D.ws i := by
  unfold SyD.has at ha hb
  simp at ha hb
  have h1 : D.cnt 7 < sumQ (fun g => (if D.whole g D.n < 2 * D.part A g D.n then 1 else 0) + (if D.whole g D.n < 2 * D.part B g D.n then 1 else 0)) 7 := by
    rw [← sumQ_add]
    show D.cnt 7 < D.held A 7 + D.held B 7
    omega
  obtain ⟨g, _, hg⟩ := sumQ_some h1
  have pa := D.part_le h A g D.n
  have pb := D.part_le h B g D.n
  have p0 := D.whole_nonneg h g D.n
  have h2 : D.whole g D.n < D.part A g D.n + D.part B g D.n := by
    by_cases e1 : D.whole g D.n < 2 * D.part A g D.n
    · by_cases e2 : D.whole g D.n < 2 * D.part B g D.n
      · omega
      · rw [if_pos e1, if_neg e2, if_pos (by omega)] at hg; omega
    · by_cases e2 : D.whole g D.n < 2 * D.part B g D.n
      · rw [if_neg e1, if_pos e2, if_pos (by omega)] at hg; omega
      · rw [if_neg e1, if_neg e2] at hg; split at hg <;> omega
  unfold SyD.part at h2
  rw [sumQ_add] at h2
  obtain ⟨i, hi, hw⟩ := sumQ_some h2
  have w0 := h.w0 i
  refine ⟨i, hi, ?_⟩
  by_cases eg : D.gs i = g
  · by_cases ea : A i = true
    · by_cases eb : B i = true
      · refine ⟨ea, eb, ?_⟩
        rw [if_pos eg, if_pos ⟨ea, eg⟩, if_pos ⟨eb, eg⟩] at hw
        omega
      · rw [if_pos eg, if_pos ⟨ea, eg⟩, if_neg (fun q => eb q.1)] at hw; omega
    · rw [if_pos eg, if_neg (fun q => ea q.1)] at hw; split at hw <;> omega
  · rw [if_neg eg, if_neg (fun q => eg q.2), if_neg (fun q => eg q.2)] at hw; omega
theorem SyD.whole_pos {D : SyD} (h : D.Good) {i : Nat} (hi : i < D.n) (hw : 0 < D.ws i) : 0 < D.whole (D.gs i) D.n :=
  sumQ_pos (fun j _ => by have := h.w0 j; split <;> omega) hi (by rw [if_pos rfl]; exact hw)
theorem SyD.cnt_pos {D : SyD} (h : D.Good) : 0 < D.cnt 7 := by
  obtain ⟨i, hi, hw⟩ := h.one
  exact sumQ_pos (fun j _ => by split <;> omega) (show D.gs i < 7 by have := h.g6 i; omega) (by rw [if_pos (D.whole_pos h hi hw)]; omega)
theorem SyD.has_all {D : SyD} (h : D.Good) {S : Nat → Bool} (hs : ∀ i, i < D.n → S i = true) : D.has S = true := by
  have h1 : ∀ g, D.part S g D.n = D.whole g D.n := fun g => sumQ_congr fun i hi => by rw [hs i hi]; simp
  have h2 : D.held S 7 = D.cnt 7 := sumQ_congr fun g _ => by
    rw [h1]
    by_cases e : 0 < D.whole g D.n
    · rw [if_pos e, if_pos (by omega)]
    · rw [if_neg e, if_neg (by omega)]
  have := D.cnt_pos h
  unfold SyD.has
  simp
  omega
theorem SyD.has_none {D : SyD} (h : D.Good) {S : Nat → Bool} (hs : ∀ i, i < D.n → S i = false) : D.has S = false := by
  cases e : D.has S with
  | false => rfl
  | true =>
    obtain ⟨i, hi, ha, _⟩ := D.meet h e e
    rw [hs i hi] at ha
    cases ha

/-- Is a set a least quorum, as the program asks? -/
def SyD.lst (D : SyD) (S : Nat → Bool) : Nat → Bool
  | 0 => true
  | k + 1 => D.lst S k && !(S k && D.has (fun j => S j && j != k))
def SyD.least (D : SyD) (S : Nat → Bool) : Bool := D.has S && D.lst S D.n
theorem SyD.lst_iff (D : SyD) (S : Nat → Bool) (k : Nat) : D.lst S k = true ↔ ∀ i, i < k → S i = true → D.has (fun j => S j && j != i) = false := by
  induction k with
  | zero => simp [SyD.lst]
  | succ k ih =>
    show (D.lst S k && _) = true ↔ _
    rw [Bool.and_eq_true, ih]
    constructor
    · rintro ⟨h1, h2⟩ i hi hs
      by_cases e : i = k
      · subst e; rw [hs] at h2; simpa using h2
      · exact h1 i (by omega) hs
    · intro h1
      refine ⟨fun i hi => h1 i (by omega), ?_⟩
      cases e : S k with
      | false => rfl
      | true => have := h1 k (by omega) e; rw [this]; rfl

/-- The server of a set of bits that is left out. -/
def delB (S i : Nat) : Nat := S &&& (255 ^^^ 2 ^ i)
theorem delB_bit {S i : Nat} (hS : S < 256) (j : Nat) : (delB S i).testBit j = (S.testBit j && j != i) := by
  unfold delB
  rw [Nat.testBit_and, Nat.testBit_xor, show (255 : Nat) = 2 ^ 8 - 1 from rfl, Nat.testBit_two_pow_sub_one, Nat.testBit_two_pow]
  by_cases e : j < 8
  · by_cases e2 : i = j
    · subst e2; simp [e]
    · have : ¬ j = i := fun q => e2 q.symm
      simp [e, e2, this]
  · have : S.testBit j = false := Nat.testBit_lt_two_pow (Nat.lt_of_lt_of_le hS (show 256 ≤ 2 ^ j by rw [show (256 : Nat) = 2 ^ 8 from rfl]; exact Nat.pow_le_pow_right (by omega) (by omega)))
    rw [this]; simp
theorem delB_lt {S i : Nat} (hS : S < 256) : delB S i < 256 := Nat.lt_of_le_of_lt Nat.and_le_left hS
theorem delB_less {S i : Nat} (h : S.testBit i = true) (hS : S < 256) : delB S i < S := by
  have h1 : delB S i ≤ S := Nat.and_le_left
  have h2 : delB S i ≠ S := fun e => by
    have := delB_bit (i := i) hS i
    rw [e, h] at this
    simp at this
  omega

/-- Each quorum holds a least one. -/
theorem SyD.has_least {D : SyD} {S : Nat} (hS : S < 128) (hh : D.has S.testBit = true) : ∃ t, t < 128 ∧ t &&& S = t ∧ D.least t.testBit = true := by
  induction S using Nat.strongRecOn with
  | ind S ih =>
    cases hl : D.lst S.testBit D.n with
    | true => exact ⟨S, hS, Nat.and_self S, by unfold SyD.least; rw [hh, hl]; rfl⟩
    | false =>
      have : ¬ D.lst S.testBit D.n = true := by rw [hl]; simp
      rw [D.lst_iff] at this
      obtain ⟨i, hi⟩ := Classical.not_forall.1 this
      obtain ⟨hi1, hi2⟩ := Classical.not_imp.1 hi
      obtain ⟨hi2, hi3⟩ := Classical.not_imp.1 hi2
      have hd : D.has (delB S i).testBit = true := by
        rw [D.has_congr (T := fun j => S.testBit j && j != i) (fun j _ => delB_bit (by omega) j)]
        revert hi3
        cases D.has (fun j => S.testBit j && j != i) <;> simp
      have hlt := delB_less hi2 (show S < 256 by omega)
      obtain ⟨t, t1, t2, t3⟩ := ih (delB S i) hlt (by omega) hd
      refine ⟨t, t1, ?_, t3⟩
      have e2 : delB S i &&& S = delB S i := by
        unfold delB
        rw [Nat.and_comm, ← Nat.and_assoc, Nat.and_self]
      rw [← t2, Nat.and_assoc, e2]

end Go.Proofs.YtdhnbgeijfgfaaaGreatDoor
