/- A list of calls and a list of numbers that came in, opened: what the statement's reading says of their cells; no Go function is walked here. -/
import Derived.Test.YtdhnbgeijfgfaaaGreatDoorDkRJ
import Derived.Deep.Slices
import Derived.SizedLaws
import Derived.ProofKit
import Derived.OpenShut
import Derived.ShutString
import Derived.ChangeOld
namespace Go.Proofs.YtdhnbgeijfgfaaaGreatDoor
open Go.ChangeShapes Go.WideShapes Go.ChangeAt Go.RowKit
set_option maxRecDepth 8000

theorem Tryz.own : ownKnob Tryz.prog.godebug = none := by kernel_rfl
theorem Tryz.laidOut : laidOutB Tryz.prog = true := by kernel_rfl

theorem addK (b off n : Nat) : (⟨b, off, none⟩ : Addr).add n = ⟨b, off + n, none⟩ := by
  by_cases h : n = 0
  · subst h; simp [Addr.add]
  · simp [Addr.add, h]

theorem seesK_nil (w : World) : Sees w (.slice none 0 0) [] := ⟨none, 0, rfl, Nat.le_refl _, by unfold maxLen; omega, fun _ => rfl, .inl rfl⟩
theorem seesN_nil (w : World) : SeesN w (.slice none 0 0) [] := ⟨none, 0, rfl, Nat.le_refl _, by unfold maxLen; omega, .inl rfl⟩

theorem reachK : reachBytes ≤ 140737488355328 := by
  have hr := reachBytes_lt
  have h47 : (2 : Nat) ^ 47 = 140737488355328 := by decide
  omega

section
variable {H : Type} {enc : TypeId × Value → H} {W : World} {base : Nat} {spare : Nat → Bool} {held : Bool}

/-- A list of bytes inside a cell. -/
theorem open_bytesK {fuel : Nat} {v : Value} {x : DataW H × List MemPlace} (h : DataW.trod enc Tryz.prog W base spare held fuel 36 [v] = some x) (hw : (x.1.weights Tryz.prog 36).all (· ≤ reachBytes) = true) :
    ∃ (ao : Option Addr) (cap : Nat) (ys : List Int), v = .slice ao ys.length cap ∧ Sees W (.slice ao ys.length cap) ys ∧ (ys ≠ [] → ∀ k, (Value.slice ao ys.length cap).ownBlock = some k → k < W.heap.size) ∧ ys.length ≤ 140737488355328 := by
  rcases open_ints Tryz.underlying36 Tryz.underlying5 (by kernel_rfl) h with ⟨hcs, _⟩ | ⟨a, l, c, zs, hcs, _, hl, hm, hz, hx, hcell, hwz⟩
  · simp at hcs
    subst hcs
    exact ⟨none, 0, [], rfl, seesK_nil W, fun e => absurd rfl e, Nat.zero_le _⟩
  · simp at hcs
    subst hcs
    have hlz : l ≤ zs.length := by rw [hz]; split <;> omega
    have hlen : (zs.take l).length = l := by simp; omega
    refine ⟨some a, c, zs.take l, by rw [hlen], ?_, ?_, ?_⟩
    · refine ⟨some a, c, rfl, by omega, hm, fun e => by simp at e, ?_⟩
      by_cases h0 : l = 0
      · subst h0; exact .inl (by simp)
      · obtain ⟨b, off, spot⟩ := a
        have hc := hcell 0 (by omega)
        have hspot : spot = none := by simpa [Addr.add] using World.cell?_spot hc
        subst hspot
        refine .inr ⟨b, off, rfl, fun i hi => ?_⟩
        have := hcell i (by omega)
        rw [addK] at this
        rw [this]
        have hi' : i < l := by omega
        simp [List.getD_eq_getElem?_getD, hi']
    · intro hne k hk
      have h0 : l ≠ 0 := fun e => hne (by rw [e]; rfl)
      have hc := World.block_lt_of_cell? W _ (hcell 0 (by omega))
      have e : (a.add 0).block = a.block := by simp [Addr.add]
      have hk' : a.block = k := by simpa [Value.ownBlock] using hk
      rw [e, hk'] at hc
      exact hc
    · have hb1 : Tryz.prog.bytesOf 5 = 1 := by kernel_rfl
      rw [hx] at hw
      simp only [DataW.weights, Tryz.underlying36, hb1, List.all_cons, Bool.and_eq_true, decide_eq_true_eq] at hw
      have h1 := hw.1
      have h2 : (lits (H := H) .u8 (zs.take l)).length = (zs.take l).length := by simp [lits]
      have := reachK
      omega

/-- A list of numbers. -/
theorem open_numsK {fuel : Nat} {v : Value} {x : DataW H × List MemPlace} (h : DataW.trod enc Tryz.prog W base spare held fuel 39 [v] = some x) (hw : (x.1.weights Tryz.prog 39).all (· ≤ reachBytes) = true) :
    ∃ (ao : Option Addr) (cap : Nat) (ks : List Int), v = .slice ao ks.length cap ∧ SeesN W (.slice ao ks.length cap) ks ∧ (ks ≠ [] → ∀ k, (Value.slice ao ks.length cap).ownBlock = some k → k < W.heap.size) ∧ ks.length ≤ 140737488355328 := by
  rcases open_ints Tryz.underlying39 Tryz.underlying3 (by kernel_rfl) h with ⟨hcs, _⟩ | ⟨a, l, c, zs, hcs, _, hl, hm, hz, hx, hcell, hwz⟩
  · simp at hcs
    subst hcs
    exact ⟨none, 0, [], rfl, seesN_nil W, fun e => absurd rfl e, Nat.zero_le _⟩
  · simp at hcs
    subst hcs
    have hlz : l ≤ zs.length := by rw [hz]; split <;> omega
    have hlen : (zs.take l).length = l := by simp; omega
    refine ⟨some a, c, zs.take l, by rw [hlen], ?_, ?_, ?_⟩
    · refine ⟨some a, c, rfl, by omega, hm, ?_⟩
      by_cases h0 : l = 0
      · subst h0; exact .inl (by simp)
      · obtain ⟨b, off, spot⟩ := a
        have hc := hcell 0 (by omega)
        have hspot : spot = none := by simpa [Addr.add] using World.cell?_spot hc
        subst hspot
        refine .inr ⟨b, off, rfl, fun i hi => ?_⟩
        have := hcell i (by omega)
        rw [addK] at this
        rw [this]
        have hi' : i < l := by omega
        simp [List.getD_eq_getElem?_getD, hi']
    · intro hne k hk
      have h0 : l ≠ 0 := fun e => hne (by rw [e]; rfl)
      have hc := World.block_lt_of_cell? W _ (hcell 0 (by omega))
      have e : (a.add 0).block = a.block := by simp [Addr.add]
      have hk' : a.block = k := by simpa [Value.ownBlock] using hk
      rw [e, hk'] at hc
      exact hc
    · have hb1 : Tryz.prog.bytesOf 3 = 8 := by kernel_rfl
      rw [hx] at hw
      simp only [DataW.weights, Tryz.underlying39, hb1, List.all_cons, Bool.and_eq_true, decide_eq_true_eq] at hw
      have h1 := hw.1
      have h2 : (lits (H := H) .i64 (zs.take l)).length = (zs.take l).length := by simp [lits]
      have := reachK
      omega

theorem open_opK {fuel : Nat} {cs : List Value} {x : DataW H × List MemPlace} (h : DataW.trod enc Tryz.prog W base spare held fuel 41 cs = some x) (hw : (x.1.weights Tryz.prog 41).all (· ≤ reachBytes) = true) :
    ∃ o : OpK, cs = o.cells ∧ GoodOpK W W.heap.size o := by
  have hcells : Tryz.prog.cellsOf 41 = 6 := by kernel_rfl
  obtain ⟨xs, n, _, hx, hl, hxl, hf⟩ := DataW.trod_struct Tryz.underlying41 h
  rw [hcells] at hl
  have q1 : Tryz.prog.cellsOf 3 = 1 := by kernel_rfl
  have q4 : Tryz.prog.cellsOf 9 = 1 := by kernel_rfl
  have q5 : Tryz.prog.cellsOf 36 = 1 := by kernel_rfl
  have q6 : Tryz.prog.cellsOf 39 = 1 := by kernel_rfl
  have g0 : DataW.trod enc Tryz.prog W base spare held n 3 ((cs.drop 0).take (Tryz.prog.cellsOf 3)) = xs[0]? := hf 0 _ rfl
  have g1 : DataW.trod enc Tryz.prog W base spare held n 9 ((cs.drop 1).take (Tryz.prog.cellsOf 9)) = xs[1]? := hf 1 _ rfl
  have g2 : DataW.trod enc Tryz.prog W base spare held n 9 ((cs.drop 2).take (Tryz.prog.cellsOf 9)) = xs[2]? := hf 2 _ rfl
  have g3 : DataW.trod enc Tryz.prog W base spare held n 36 ((cs.drop 3).take (Tryz.prog.cellsOf 36)) = xs[3]? := hf 3 _ rfl
  have g4 : DataW.trod enc Tryz.prog W base spare held n 3 ((cs.drop 4).take (Tryz.prog.cellsOf 3)) = xs[4]? := hf 4 _ rfl
  have g5 : DataW.trod enc Tryz.prog W base spare held n 39 ((cs.drop 5).take (Tryz.prog.cellsOf 39)) = xs[5]? := hf 5 _ rfl
  have hxl6 : xs.length = 6 := hxl
  clear hf hxl
  match xs, hxl6, cs, hl with
  | [y0, y1, y2, y3, y4, y5], _, [v0, v1, v2, v3, v4, v5], _ =>
    rw [q1] at g0 g4
    rw [q4] at g1 g2
    rw [q5] at g3
    rw [q6] at g5
    rw [hx] at hw
    simp only [DataW.weights, Tryz.underlying41] at hw
    have hm : ∀ (j : Nat) (t : TypeId) (d : DataW H), ([3, 9, 9, 36, 3, 39] : List TypeId)[j]? = some t → ([y0.1, y1.1, y2.1, y3.1, y4.1, y5.1] : List (DataW H))[j]? = some d → (d.weights Tryz.prog t).all (· ≤ reachBytes) = true := by
      intro j t d ht hd
      rw [List.all_eq_true] at hw ⊢
      intro m hm
      exact hw m (DataW.weights_mem_each (ts := [3, 9, 9, 36, 3, 39]) ht hd m hm)
    have hw1 := hm 1 _ _ rfl rfl
    have hw2 := hm 2 _ _ rfl rfl
    obtain ⟨kd, e0, _, _⟩ := DataW.trod_int Tryz.underlying3 (show DataW.trod enc Tryz.prog W base spare held n 3 [v0] = some y0 from g0)
    obtain ⟨s, e1, d1, _⟩ := DataW.trod_string Tryz.underlying9 (show DataW.trod enc Tryz.prog W base spare held n 9 [v1] = some y1 from g1)
    obtain ⟨t, e2, d2, _⟩ := DataW.trod_string Tryz.underlying9 (show DataW.trod enc Tryz.prog W base spare held n 9 [v2] = some y2 from g2)
    obtain ⟨ao, cap, ys, e3, hs, hsb, hsl⟩ := open_bytesK (show DataW.trod enc Tryz.prog W base spare held n 36 [v3] = some y3 from g3) (hm 3 _ _ rfl rfl)
    obtain ⟨m, e4, _, w4⟩ := DataW.trod_int Tryz.underlying3 (show DataW.trod enc Tryz.prog W base spare held n 3 [v4] = some y4 from g4)
    obtain ⟨ka, kc, ks, e5, hk, hkb, hkl⟩ := open_numsK (show DataW.trod enc Tryz.prog W base spare held n 39 [v5] = some y5 from g5) (hm 5 _ _ rfl rfl)
    simp at e0 e1 e2 e4
    subst e0 e1 e2 e3 e4 e5
    rw [d1] at hw1
    rw [d2] at hw2
    simp [DataW.weights] at hw1 hw2
    have := reachK
    exact ⟨⟨kd, s, t, ao, cap, ys, m, ka, kc, ks⟩, rfl, ⟨hs, hk, hsl, hkl, by show s.size ≤ _; omega, by show t.size ≤ _; omega, hsb, hkb, (bounds_i64 w4).2⟩⟩

theorem weightsK_all {P : Program} {e : TypeId} : ∀ {ds : List (DataW H)} {d : DataW H}, d ∈ ds → ∀ n ∈ d.weights P e, n ∈ DataW.weightsAll P e ds
  | d0 :: ds, d, hd, n, hn => by
    simp only [DataW.weightsAll, List.mem_append]
    rcases List.mem_cons.1 hd with rfl | hd
    · exact .inl hn
    · exact .inr (weightsK_all hd n hn)

instance : Inhabited OpK := ⟨⟨0, ⟨#[]⟩, ⟨#[]⟩, none, 0, [], 0, none, 0, []⟩⟩

/-- A list of calls that came in. -/
theorem open_opsK {fuel : Nat} {v : Value} {x : DataW H × List MemPlace} (h : DataW.trod enc Tryz.prog W base spare held fuel 23 [v] = some x)
    (hw : (x.1.weights Tryz.prog 23).all (· ≤ reachBytes) = true) :
    ∃ os : List OpK, SeesOpsK W W.heap.size v os ∧ os.length ≤ 140737488355328 := by
  have hcells : Tryz.prog.cellsOf 41 = 6 := by kernel_rfl
  rcases Deep.open_slice Tryz.underlying23 h with ⟨hcs, _⟩ | ⟨a', len, cap, m, n, D, Pl, hcs, _, hl, hm, hmm, hx, hel⟩
  · simp at hcs
    subst hcs
    exact ⟨[], ⟨⟨none, 0, rfl, Nat.le_refl _, by unfold maxLen; omega, .inl rfl⟩, fun o ho => by simp at ho⟩, Nat.zero_le _⟩
  · simp at hcs
    subst hcs
    have hlm : len ≤ m := by rw [hmm]; split <;> omega
    have hbo : Tryz.prog.bytesOf 41 = 96 := by kernel_rfl
    rw [hx] at hw
    simp only [DataW.weights, Tryz.underlying23, hbo, List.all_cons, List.all_append, Bool.and_eq_true, decide_eq_true_eq] at hw
    have hwd : ∀ i, i < len → ((D i).weights Tryz.prog 41).all (· ≤ reachBytes) = true := by
      intro i hi
      have := hw.2.1
      rw [List.all_eq_true] at this ⊢
      intro q hq
      exact this q (weightsK_all (List.mem_map.2 ⟨i, List.mem_range.2 hi, rfl⟩) q hq)
    have each : ∀ i, i < len → ∃ o : OpK, GoodOpK W W.heap.size o ∧ ∀ j, j < 6 → W.cell? (a'.add (i * 6 + j)) = o.cells[j]? := by
      intro i hi
      obtain ⟨cs', h1, h2⟩ := hel i (by omega)
      rw [hcells] at h1
      obtain ⟨_, hlen, hcell⟩ := World.cells?_some h1
      obtain ⟨o, e, hg⟩ := open_opK h2 (hwd i hi)
      refine ⟨o, hg, fun j hj => ?_⟩
      have := hcell j hj
      rw [Deep.add_add] at this
      rw [← e, this]
    obtain ⟨O, hO⟩ := Deep.choose_lt each
    have hol : ((List.range len).map O).length = len := by simp
    refine ⟨(List.range len).map O, ⟨⟨some a', cap, by rw [hol], by omega, hm, ?_⟩, fun o ho => ?_⟩, ?_⟩
    · by_cases h0 : len = 0
      · subst h0; exact .inl rfl
      · obtain ⟨b, off, spot⟩ := a'
        have hc := (hO 0 (by omega)).2 0 (by omega)
        have hc' : W.cell? ((⟨b, off, spot⟩ : Addr).add (0 * 6 + 0)) = some (.int .i64 (O 0).kind) := hc
        have hspot : spot = none := by simpa [Addr.add] using World.cell?_spot hc'
        subst hspot
        have hbl := World.block_lt_of_cell? W _ hc'
        rw [addK] at hbl
        refine .inr ⟨b, off, rfl, hbl, fun i hi j x hj => ?_⟩
        rw [hol] at hi
        have c := (hO i hi).2
        simp only [addK] at c
        simp only [List.getElem_map, List.getElem_range] at hj
        have hj6 : j < 6 := by
          have := (List.getElem?_eq_some_iff.1 hj).1
          exact this
        rw [Nat.add_assoc, c j hj6, hj]
    · obtain ⟨i, hi, rfl⟩ := List.mem_map.1 ho
      exact (hO i (List.mem_range.1 hi)).1
    · rw [hol]
      have h1 := hw.1
      simp at h1
      have := reachK
      omega

end
end Go.Proofs.YtdhnbgeijfgfaaaGreatDoor

/- A list of files that came in, opened: what the statement's reading says of its cells; no Go function is walked here. -/
namespace Go.Proofs.YtdhnbgeijfgfaaaGreatDoor
open Go.ChangeShapes Go.WideShapes Go.ChangeAt Go.RowKit
set_option maxRecDepth 8000

/-- One file, as data, with the slice of its bytes. -/
structure FlK where
  name : ByteArray
  pa : Option Addr
  pc : Nat
  p : List Int
  dur : Int

def FlK.pv (o : FlK) : Value := .slice o.pa o.p.length o.pc
def FlK.cells (o : FlK) : List Value := [.string o.name, .slice o.pa o.p.length o.pc, .int .i64 o.dur]

/-- What holds of a file in memory, all of it below n. -/
structure GoodFl (w : World) (n : Nat) (o : FlK) : Prop where
  see : Sees w o.pv o.p
  pl : o.p.length ≤ 140737488355328
  nl : o.name.size ≤ 140737488355328
  pb : o.p ≠ [] → ∀ k, o.pv.ownBlock = some k → k < n
  d0 : -9223372036854775808 ≤ o.dur
  d1 : o.dur ≤ 9223372036854775807

theorem GoodFl.kept {w w' : World} {S : Nat → Prop} {n : Nat} {o : FlK} (h : GoodFl w n o) (hk : Kept w w' S) (hS : ∀ k, k < n → ¬ S k) : GoodFl w' n o :=
  ⟨h.see.keptN hk (fun hy k e => hS k (h.pb hy k e)), h.pl, h.nl, h.pb, h.d0, h.d1⟩

def SeesFls (w : World) (n : Nat) (v : Value) (l : List FlK) : Prop :=
  (∃ a c, v = .slice a l.length c ∧ l.length ≤ c ∧ c ≤ maxLen ∧ (l = [] ∨ ∃ b off, a = some ⟨b, off, none⟩ ∧ b < n ∧ ∀ (i : Nat) (h : i < l.length), w.rangeAt b (off + i * 3) l[i].cells)) ∧ ∀ o ∈ l, GoodFl w n o

section
variable {H : Type} {enc : TypeId × Value → H} {W : World} {base : Nat} {spare : Nat → Bool} {held : Bool}

theorem open_flK {fuel : Nat} {cs : List Value} {x : DataW H × List MemPlace} (h : DataW.trod enc Tryz.prog W base spare held fuel 38 cs = some x) (hw : (x.1.weights Tryz.prog 38).all (· ≤ reachBytes) = true) :
    ∃ o : FlK, cs = o.cells ∧ GoodFl W W.heap.size o := by
  have hcells : Tryz.prog.cellsOf 38 = 3 := by kernel_rfl
  obtain ⟨xs, n, _, hx, hl, hxl, hf⟩ := DataW.trod_struct Tryz.underlying38 h
  rw [hcells] at hl
  have q1 : Tryz.prog.cellsOf 3 = 1 := by kernel_rfl
  have q4 : Tryz.prog.cellsOf 9 = 1 := by kernel_rfl
  have q5 : Tryz.prog.cellsOf 36 = 1 := by kernel_rfl
  have g0 : DataW.trod enc Tryz.prog W base spare held n 9 ((cs.drop 0).take (Tryz.prog.cellsOf 9)) = xs[0]? := hf 0 _ rfl
  have g1 : DataW.trod enc Tryz.prog W base spare held n 36 ((cs.drop 1).take (Tryz.prog.cellsOf 36)) = xs[1]? := hf 1 _ rfl
  have g2 : DataW.trod enc Tryz.prog W base spare held n 3 ((cs.drop 2).take (Tryz.prog.cellsOf 3)) = xs[2]? := hf 2 _ rfl
  have hxl3 : xs.length = 3 := hxl
  clear hf hxl
  match xs, hxl3, cs, hl with
  | [y0, y1, y2], _, [v0, v1, v2], _ =>
    rw [q4] at g0
    rw [q5] at g1
    rw [q1] at g2
    rw [hx] at hw
    simp only [DataW.weights, Tryz.underlying38] at hw
    have hm : ∀ (j : Nat) (t : TypeId) (d : DataW H), ([9, 36, 3] : List TypeId)[j]? = some t → ([y0.1, y1.1, y2.1] : List (DataW H))[j]? = some d → (d.weights Tryz.prog t).all (· ≤ reachBytes) = true := by
      intro j t d ht hd
      rw [List.all_eq_true] at hw ⊢
      intro m hm
      exact hw m (DataW.weights_mem_each (ts := [9, 36, 3]) ht hd m hm)
    have hw0 := hm 0 _ _ rfl rfl
    obtain ⟨s, e0, d0, _⟩ := DataW.trod_string Tryz.underlying9 (show DataW.trod enc Tryz.prog W base spare held n 9 [v0] = some y0 from g0)
    obtain ⟨ao, cap, ys, e1, hs, hsb, hsl⟩ := open_bytesK (show DataW.trod enc Tryz.prog W base spare held n 36 [v1] = some y1 from g1) (hm 1 _ _ rfl rfl)
    obtain ⟨m, e2, _, w2⟩ := DataW.trod_int Tryz.underlying3 (show DataW.trod enc Tryz.prog W base spare held n 3 [v2] = some y2 from g2)
    simp at e0 e2
    subst e0 e1 e2
    rw [d0] at hw0
    simp [DataW.weights] at hw0
    have := reachK
    exact ⟨⟨s, ao, cap, ys, m⟩, rfl, ⟨hs, hsl, by show s.size ≤ _; omega, hsb, (bounds_i64 w2).1, (bounds_i64 w2).2⟩⟩

instance : Inhabited FlK := ⟨⟨⟨#[]⟩, none, 0, [], 0⟩⟩

/-- A list of files that came in. -/
theorem open_flsK {fuel : Nat} {v : Value} {x : DataW H × List MemPlace} (h : DataW.trod enc Tryz.prog W base spare held fuel 22 [v] = some x)
    (hw : (x.1.weights Tryz.prog 22).all (· ≤ reachBytes) = true) :
    ∃ os : List FlK, SeesFls W W.heap.size v os ∧ os.length ≤ 140737488355328 := by
  have hcells : Tryz.prog.cellsOf 38 = 3 := by kernel_rfl
  rcases Deep.open_slice Tryz.underlying22 h with ⟨hcs, _⟩ | ⟨a', len, cap, m, n, D, Pl, hcs, _, hl, hm, hmm, hx, hel⟩
  · simp at hcs
    subst hcs
    exact ⟨[], ⟨⟨none, 0, rfl, Nat.le_refl _, by unfold maxLen; omega, .inl rfl⟩, fun o ho => by simp at ho⟩, Nat.zero_le _⟩
  · simp at hcs
    subst hcs
    have hlm : len ≤ m := by rw [hmm]; split <;> omega
    have hbo : Tryz.prog.bytesOf 38 = 48 := by kernel_rfl
    rw [hx] at hw
    simp only [DataW.weights, Tryz.underlying22, hbo, List.all_cons, List.all_append, Bool.and_eq_true, decide_eq_true_eq] at hw
    have hwd : ∀ i, i < len → ((D i).weights Tryz.prog 38).all (· ≤ reachBytes) = true := by
      intro i hi
      have := hw.2.1
      rw [List.all_eq_true] at this ⊢
      intro q hq
      exact this q (weightsK_all (List.mem_map.2 ⟨i, List.mem_range.2 hi, rfl⟩) q hq)
    have each : ∀ i, i < len → ∃ o : FlK, GoodFl W W.heap.size o ∧ ∀ j, j < 3 → W.cell? (a'.add (i * 3 + j)) = o.cells[j]? := by
      intro i hi
      obtain ⟨cs', h1, h2⟩ := hel i (by omega)
      rw [hcells] at h1
      obtain ⟨_, hlen, hcell⟩ := World.cells?_some h1
      obtain ⟨o, e, hg⟩ := open_flK h2 (hwd i hi)
      refine ⟨o, hg, fun j hj => ?_⟩
      have := hcell j hj
      rw [Deep.add_add] at this
      rw [← e, this]
    obtain ⟨O, hO⟩ := Deep.choose_lt each
    have hol : ((List.range len).map O).length = len := by simp
    refine ⟨(List.range len).map O, ⟨⟨some a', cap, by rw [hol], by omega, hm, ?_⟩, fun o ho => ?_⟩, ?_⟩
    · by_cases h0 : len = 0
      · subst h0; exact .inl rfl
      · obtain ⟨b, off, spot⟩ := a'
        have hc' : W.cell? ((⟨b, off, spot⟩ : Addr).add (0 * 3 + 0)) = some (.string (O 0).name) := (hO 0 (by omega)).2 0 (by omega)
        have hspot : spot = none := by simpa [Addr.add] using World.cell?_spot hc'
        subst hspot
        have hbl := World.block_lt_of_cell? W _ hc'
        rw [addK] at hbl
        refine .inr ⟨b, off, rfl, hbl, fun i hi j x hj => ?_⟩
        rw [hol] at hi
        have c := (hO i hi).2
        simp only [addK] at c
        simp only [List.getElem_map, List.getElem_range] at hj
        have hj3 : j < 3 := by
          have := (List.getElem?_eq_some_iff.1 hj).1
          exact this
        rw [Nat.add_assoc, c j hj3, hj]
    · obtain ⟨i, hi, rfl⟩ := List.mem_map.1 ho
      exact (hO i (List.mem_range.1 hi)).1
    · rw [hol]
      have h1 := hw.1
      simp at h1
      have := reachK
      omega

end
end Go.Proofs.YtdhnbgeijfgfaaaGreatDoor
