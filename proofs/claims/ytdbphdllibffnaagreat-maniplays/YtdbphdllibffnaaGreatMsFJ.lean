/- A script of layer 11 that came in, opened; is it long. -/
import Derived.Test.YtdbphdllibffnaaGreatMsDJ
import Derived.Test.YtdbphdllibffnaaGreatDkUJ
import Derived.Deep.DeepHandedRow
namespace Go.Proofs.YtdbphdllibffnaaGreat
open Go.ChangeShapes Go.WideShapes Go.ChangeAt Go.RowKit
set_option maxRecDepth 8000

section
variable {H : Type} {enc : TypeId × Value → H} {W : World} {base : Nat} {spare : Nat → Bool} {held : Bool}

/-- A list of bytes inside a cell. -/
theorem open_bytesM {fuel : Nat} {v : Value} {x : DataW H × List MemPlace} (h : DataW.trod enc Tryz.prog W base spare held fuel 36 [v] = some x) (hw : (x.1.weights Tryz.prog 36).all (· ≤ reachBytes) = true) :
    ∃ (ao : Option Addr) (cap : Nat) (ys : List Int), v = .slice ao ys.length cap ∧ Sees W (.slice ao ys.length cap) ys ∧ (ys ≠ [] → ∀ k, (Value.slice ao ys.length cap).ownBlock = some k → k < W.heap.size) ∧ ys.length ≤ 140737488355328 ∧ Byts ys := by
  rcases open_ints Tryz.underlying36 Tryz.underlying5 (by kernel_rfl) h with ⟨hcs, _⟩ | ⟨a, l, c, zs, hcs, _, hl, hm, hz, hx, hcell, hwz⟩
  · simp at hcs
    subst hcs
    exact ⟨none, 0, [], rfl, seesK_nil W, fun e => absurd rfl e, Nat.zero_le _, fun x hx => by simp at hx⟩
  · simp at hcs
    subst hcs
    have hlz : l ≤ zs.length := by rw [hz]; split <;> omega
    have hlen : (zs.take l).length = l := by simp; omega
    refine ⟨some a, c, zs.take l, by rw [hlen], ?_, ?_, ?_, fun y hy => bounds_u8 (hwz y (List.mem_of_mem_take hy))⟩
    · refine ⟨some a, c, rfl, by omega, hm, fun e => by simp at e, ?_⟩
      by_cases h0 : l = 0
      · subst h0; exact .inl (by simp)
      · obtain ⟨b, off, spot⟩ := a
        have hc := hcell 0 (by omega)
        have hspot : spot = none := by simpa [Addr.add] using World.cell?_spot hc
        subst hspot
        refine .inr ⟨b, off, rfl, fun i hi => ?_⟩
        have := hcell i (by omega)
        rw [addK] at this
        rw [this]
        have hi' : i < l := by omega
        simp [List.getD_eq_getElem?_getD, hi']
    · intro hne k hk
      have h0 : l ≠ 0 := fun e => hne (by rw [e]; rfl)
      have hc := World.block_lt_of_cell? W _ (hcell 0 (by omega))
      have e : (a.add 0).block = a.block := by simp [Addr.add]
      have hk' : a.block = k := by simpa [Value.ownBlock] using hk
      rw [e, hk'] at hc
      exact hc
    · have hb1 : Tryz.prog.bytesOf 5 = 1 := by kernel_rfl
      rw [hx] at hw
      simp only [DataW.weights, Tryz.underlying36, hb1, List.all_cons, Bool.and_eq_true, decide_eq_true_eq] at hw
      have h1 := hw.1
      have h2 : (lits (H := H) .u8 (zs.take l)).length = (zs.take l).length := by simp [lits]
      have := reachK
      omega

theorem open_manM {fuel : Nat} {cs : List Value} {x : DataW H × List MemPlace} (h : DataW.trod enc Tryz.prog W base spare held fuel 35 cs = some x) :
    ∃ m : MaD, cs = [.int .u32 m.boot, .int .u32 m.acc, .int .u32 m.cur, .int .i64 m.snap, .int .i64 m.log] ∧ m.Fits := by
  have hcells : Tryz.prog.cellsOf 35 = 5 := by kernel_rfl
  obtain ⟨xs, n, _, hx, hl, hxl, hf⟩ := DataW.trod_struct Tryz.underlying35 h
  rw [hcells] at hl
  have q1 : Tryz.prog.cellsOf 33 = 1 := by kernel_rfl
  have q2 : Tryz.prog.cellsOf 2 = 1 := by kernel_rfl
  have g0 : DataW.trod enc Tryz.prog W base spare held n 33 ((cs.drop 0).take (Tryz.prog.cellsOf 33)) = xs[0]? := hf 0 _ rfl
  have g1 : DataW.trod enc Tryz.prog W base spare held n 33 ((cs.drop 1).take (Tryz.prog.cellsOf 33)) = xs[1]? := hf 1 _ rfl
  have g2 : DataW.trod enc Tryz.prog W base spare held n 33 ((cs.drop 2).take (Tryz.prog.cellsOf 33)) = xs[2]? := hf 2 _ rfl
  have g3 : DataW.trod enc Tryz.prog W base spare held n 2 ((cs.drop 3).take (Tryz.prog.cellsOf 2)) = xs[3]? := hf 3 _ rfl
  have g4 : DataW.trod enc Tryz.prog W base spare held n 2 ((cs.drop 4).take (Tryz.prog.cellsOf 2)) = xs[4]? := hf 4 _ rfl
  have hxl5 : xs.length = 5 := hxl
  clear hf hxl
  match xs, hxl5, cs, hl with
  | [y0, y1, y2, y3, y4], _, [v0, v1, v2, v3, v4], _ =>
    rw [q1] at g0 g1 g2
    rw [q2] at g3 g4
    obtain ⟨a, e0, _, w0⟩ := DataW.trod_int Tryz.underlying33 (show DataW.trod enc Tryz.prog W base spare held n 33 [v0] = some y0 from g0)
    obtain ⟨b, e1, _, w1⟩ := DataW.trod_int Tryz.underlying33 (show DataW.trod enc Tryz.prog W base spare held n 33 [v1] = some y1 from g1)
    obtain ⟨c, e2, _, w2⟩ := DataW.trod_int Tryz.underlying33 (show DataW.trod enc Tryz.prog W base spare held n 33 [v2] = some y2 from g2)
    obtain ⟨d, e3, _, w3⟩ := DataW.trod_int Tryz.underlying2 (show DataW.trod enc Tryz.prog W base spare held n 2 [v3] = some y3 from g3)
    obtain ⟨e, e4, _, w4⟩ := DataW.trod_int Tryz.underlying2 (show DataW.trod enc Tryz.prog W base spare held n 2 [v4] = some y4 from g4)
    simp at e0 e1 e2 e3 e4
    subst e0 e1 e2 e3 e4
    have h0 := bounds_u32 w0
    have h1 := bounds_u32 w1
    have h2 := bounds_u32 w2
    have h3 := bounds_i64 w3
    have h4 := bounds_i64 w4
    exact ⟨⟨a, b, c, d, e⟩, rfl, ⟨h0.1, Int.lt_of_le_of_lt h0.2 (by decide), h1.1, Int.lt_of_le_of_lt h1.2 (by decide), h2.1, Int.lt_of_le_of_lt h2.2 (by decide), h3.1, h3.2, h4.1, h4.2⟩⟩

/-- A script in memory. -/
def SeesOpsM (w : World) (n : Nat) (v : Value) (l : List OpM) : Prop :=
  (∃ a c, v = .slice a l.length c ∧ l.length ≤ c ∧ c ≤ maxLen ∧ (l = [] ∨ ∃ b off, a = some ⟨b, off, none⟩ ∧ b < n ∧ ∀ (i : Nat) (h : i < l.length), w.rangeAt b (off + i * 9) l[i].cells)) ∧ ∀ o ∈ l, GoodOpM w n o

theorem open_opM {fuel : Nat} {cs : List Value} {x : DataW H × List MemPlace} (h : DataW.trod enc Tryz.prog W base spare held fuel 39 cs = some x) (hw : (x.1.weights Tryz.prog 39).all (· ≤ reachBytes) = true) :
    ∃ o : OpM, cs = o.cells ∧ GoodOpM W W.heap.size o := by
  have hcells : Tryz.prog.cellsOf 39 = 9 := by kernel_rfl
  obtain ⟨xs, n, _, hx, hl, hxl, hf⟩ := DataW.trod_struct Tryz.underlying39 h
  rw [hcells] at hl
  have q1 : Tryz.prog.cellsOf 3 = 1 := by kernel_rfl
  have q4 : Tryz.prog.cellsOf 35 = 5 := by kernel_rfl
  have q5 : Tryz.prog.cellsOf 36 = 1 := by kernel_rfl
  have q6 : Tryz.prog.cellsOf 37 = 1 := by kernel_rfl
  have g0 : DataW.trod enc Tryz.prog W base spare held n 3 ((cs.drop 0).take (Tryz.prog.cellsOf 3)) = xs[0]? := hf 0 _ rfl
  have g1 : DataW.trod enc Tryz.prog W base spare held n 35 ((cs.drop 1).take (Tryz.prog.cellsOf 35)) = xs[1]? := hf 1 _ rfl
  have g3 : DataW.trod enc Tryz.prog W base spare held n 36 ((cs.drop 6).take (Tryz.prog.cellsOf 36)) = xs[2]? := hf 2 _ rfl
  have g4 : DataW.trod enc Tryz.prog W base spare held n 3 ((cs.drop 7).take (Tryz.prog.cellsOf 3)) = xs[3]? := hf 3 _ rfl
  have g5 : DataW.trod enc Tryz.prog W base spare held n 37 ((cs.drop 8).take (Tryz.prog.cellsOf 37)) = xs[4]? := hf 4 _ rfl
  have hxl6 : xs.length = 5 := hxl
  clear hf hxl
  match xs, hxl6, cs, hl with
  | [y0, y1, y3, y4, y5], _, [v0, m0, m1, m2, m3, m4, v3, v4, v5], _ =>
    rw [q1] at g0 g4
    rw [q4] at g1
    rw [q5] at g3
    rw [q6] at g5
    rw [hx] at hw
    simp only [DataW.weights, Tryz.underlying39] at hw
    have hm : ∀ (j : Nat) (t : TypeId) (d : DataW H), ([3, 35, 36, 3, 37] : List TypeId)[j]? = some t → ([y0.1, y1.1, y3.1, y4.1, y5.1] : List (DataW H))[j]? = some d → (d.weights Tryz.prog t).all (· ≤ reachBytes) = true := by
      intro j t d ht hd
      rw [List.all_eq_true] at hw ⊢
      intro m hm
      exact hw m (DataW.weights_mem_each (ts := [3, 35, 36, 3, 37]) ht hd m hm)
    obtain ⟨kd, e0, _, _⟩ := DataW.trod_int Tryz.underlying3 (show DataW.trod enc Tryz.prog W base spare held n 3 [v0] = some y0 from g0)
    obtain ⟨mm, em, hmf⟩ := open_manM (show DataW.trod enc Tryz.prog W base spare held n 35 [m0, m1, m2, m3, m4] = some y1 from g1)
    obtain ⟨ao, cap, ys, e3, hs, hsb, hsl, hby⟩ := open_bytesM (show DataW.trod enc Tryz.prog W base spare held n 36 [v3] = some y3 from g3) (hm 2 _ _ rfl rfl)
    obtain ⟨m, e4, _, w4⟩ := DataW.trod_int Tryz.underlying3 (show DataW.trod enc Tryz.prog W base spare held n 3 [v4] = some y4 from g4)
    obtain ⟨ka, kc, ks, e5, hk, hkb, hkl⟩ := open_numsK (show DataW.trod enc Tryz.prog W base spare held n 37 [v5] = some y5 from g5) (hm 4 _ _ rfl rfl)
    simp at e0 e4
    simp only [List.cons.injEq, and_true] at em
    obtain ⟨rfl, rfl, rfl, rfl, rfl⟩ := em
    subst e0 e3 e4 e5
    exact ⟨⟨kd, mm, ao, cap, ys, m, ka, kc, ks⟩, rfl, ⟨hs, hk, hsl, hkl, hsb, hkb, (bounds_i64 w4).2, hby, hmf⟩⟩

/-- A list of calls that came in. -/
theorem open_opsM {fuel : Nat} {v : Value} {x : DataW H × List MemPlace} (h : DataW.trod enc Tryz.prog W base spare held fuel 22 [v] = some x)
    (hw : (x.1.weights Tryz.prog 22).all (· ≤ reachBytes) = true) :
    ∃ os : List OpM, SeesOpsM W W.heap.size v os ∧ os.length ≤ 140737488355328 := by
  have hcells : Tryz.prog.cellsOf 39 = 9 := by kernel_rfl
  rcases Deep.open_slice Tryz.underlying22 h with ⟨hcs, _⟩ | ⟨a', len, cap, m, n, D, Pl, hcs, _, hl, hm, hmm, hx, hel⟩
  · simp at hcs
    subst hcs
    exact ⟨[], ⟨⟨none, 0, rfl, Nat.le_refl _, by unfold maxLen; omega, .inl rfl⟩, fun o ho => by simp at ho⟩, Nat.zero_le _⟩
  · simp at hcs
    subst hcs
    have hlm : len ≤ m := by rw [hmm]; split <;> omega
    have hbo : Tryz.prog.bytesOf 39 = 96 := by kernel_rfl
    rw [hx] at hw
    simp only [DataW.weights, Tryz.underlying22, hbo, List.all_cons, List.all_append, Bool.and_eq_true, decide_eq_true_eq] at hw
    have hwd : ∀ i, i < len → ((D i).weights Tryz.prog 39).all (· ≤ reachBytes) = true := by
      intro i hi
      have := hw.2.1
      rw [List.all_eq_true] at this ⊢
      intro q hq
      exact this q (weightsK_all (List.mem_map.2 ⟨i, List.mem_range.2 hi, rfl⟩) q hq)
    have each : ∀ i, i < len → ∃ o : OpM, GoodOpM W W.heap.size o ∧ ∀ j, j < 9 → W.cell? (a'.add (i * 9 + j)) = o.cells[j]? := by
      intro i hi
      obtain ⟨cs', h1, h2⟩ := hel i (by omega)
      rw [hcells] at h1
      obtain ⟨_, hlen, hcell⟩ := World.cells?_some h1
      obtain ⟨o, e, hg⟩ := open_opM h2 (hwd i hi)
      refine ⟨o, hg, fun j hj => ?_⟩
      have := hcell j hj
      rw [Deep.add_add] at this
      rw [← e, this]
    have : Inhabited OpM := ⟨⟨0, ⟨0, 0, 0, 0, 0⟩, none, 0, [], 0, none, 0, []⟩⟩
    obtain ⟨O, hO⟩ := Deep.choose_lt each
    have hol : ((List.range len).map O).length = len := by simp
    refine ⟨(List.range len).map O, ⟨⟨some a', cap, by rw [hol], by omega, hm, ?_⟩, fun o ho => ?_⟩, ?_⟩
    · by_cases h0 : len = 0
      · subst h0; exact .inl rfl
      · obtain ⟨b, off, spot⟩ := a'
        have hc := (hO 0 (by omega)).2 0 (by omega)
        have hc' : W.cell? ((⟨b, off, spot⟩ : Addr).add (0 * 9 + 0)) = some (.int .i64 (O 0).kind) := hc
        have hspot : spot = none := by simpa [Addr.add] using World.cell?_spot hc'
        subst hspot
        have hbl := World.block_lt_of_cell? W _ hc'
        rw [addK] at hbl
        refine .inr ⟨b, off, rfl, hbl, fun i hi j x hj => ?_⟩
        rw [hol] at hi
        have c := (hO i hi).2
        simp only [addK] at c
        simp only [List.getElem_map, List.getElem_range] at hj
        have hj9 : j < 9 := by
          have := (List.getElem?_eq_some_iff.1 hj).1
          exact this
        rw [Nat.add_assoc, c j hj9, hj]
    · obtain ⟨i, hi, rfl⟩ := List.mem_map.1 ho
      exact (hO i (List.mem_range.1 hi)).1
    · rw [hol]
      have h1 := hw.1
      simp at h1
      have := reachK
      omega

end

/-- So much a thing of a script holds. -/
def opSzM (o : OpM) : Nat := o.p.length + o.keep.length
def opsSzM : List OpM → Nat
  | [] => 0
  | o :: r => opSzM o + opsSzM r
theorem opsSzM_append (a b : List OpM) : opsSzM (a ++ b) = opsSzM a + opsSzM b := by
  induction a with
  | nil => simp [opsSzM]
  | cons o r ih => simp only [List.cons_append, opsSzM, ih]; omega
theorem opsSzM_next {l : List OpM} {k : Nat} (h : k < l.length) : opsSzM (l.take (k + 1)) = opsSzM (l.take k) + opSzM l[k] := by
  rw [List.take_succ_eq_append_getElem h, opsSzM_append]; simp [opsSzM]
theorem opsSzM_mem {l : List OpM} {o : OpM} (h : o ∈ l) : opSzM o ≤ opsSzM l := by
  induction l with
  | nil => cases h
  | cons a l ih =>
    simp only [opsSzM]
    rcases List.mem_cons.1 h with rfl | h
    · omega
    · have := ih h; omega
theorem opsSzM_take (l : List OpM) (k : Nat) : opsSzM (l.take k) ≤ opsSzM l := by
  conv => rhs; rw [← List.take_append_drop k l, opsSzM_append]
  omega
def bydM (l : List OpM) : Bool := decide (2147483647 ≤ l.length + opsSzM l)
theorem bydM_false {l : List OpM} (h : bydM l = false) : l.length < 2147483647 ∧ ∀ o ∈ l, o.p.length < 2147483647 := by
  have e2 := of_decide_eq_false h
  refine ⟨by omega, fun o ho => ?_⟩
  have := opsSzM_mem ho
  unfold opSzM at this
  omega

set_option maxHeartbeats 1000000 in
theorem longM_any {w : World} {n : Nat} {v : Value} {l : List OpM} (h : SeesOpsM w n v l) (hll : l.length ≤ 140737488355328) :
    Calls Tryz.prog 4 #[v] w fun e w' => e = .returned (.bool (bydM l)) ∧ Below w.heap.size w w' := by
  obtain ⟨bb, hbb⟩ : ∃ bb, bb = bydM l := ⟨_, rfl⟩
  rw [← hbb]
  have HBB : Hid _ := hbb
  clear hbb
  obtain ⟨⟨a, c, rfl, h1, h2, h3⟩, h4⟩ := h
  unfold maxLen at h2
  have H3 : Hid _ := h3
  have H4 : Hid _ := h4
  clear h3 h4
  go_enter Tryz.func4, Tryz.ntmps4
  go_wp2_with fail
  go_loopw [3, 4] (fun vn vi wr => ∃ k : Nat, k ≤ l.length ∧ vi = .int .i64 k ∧ vn = .int .i64 (l.length + opsSzM (l.take k) : Nat) ∧ Hid (l.length + opsSzM (l.take k) ≤ 1000000000000000) ∧ Hid (∃ q, wr = w.drewN q)) (fun _ vi _ => l.length - (intOf vi).toNat)
  case atStart => exact ⟨0, Nat.zero_le _, rfl, by simp [opsSzM], by show _ ≤ _; simp [opsSzM]; omega, ⟨0, rfl⟩⟩
  case round =>
    obtain ⟨k, hk, rfl, rfl, HS, HW⟩ := hrel
    obtain ⟨q, rfl⟩ := HW.out
    obtain ⟨N, hN⟩ : ∃ N, N = l.length + opsSzM (l.take k) := ⟨_, rfl⟩
    rw [← hN] at HS ⊢
    have hN1 := HS.out
    have HNN : Hid _ := hN
    clear hN HS
    by_cases hlt : k < l.length
    · have hd1 : decide ((k : Int) < (l.length : Int)) = true := decide_eq_true (by omega)
      by_cases hn2 : (N : Int) < 2147483647
      · have hd2 : decide ((N : Int) < 2147483647) = true := decide_eq_true hn2
        rcases H3.out with e | ⟨b, off, rfl, hb, hr⟩
        · rw [e] at hlt; simp at hlt
        · have hg := H4.out l[k] (List.getElem_mem hlt)
          have hrk := hr k hlt
          have c3 : w.cell? ⟨b, off + k * 9 + 6, none⟩ = some (.slice l[k].pa l[k].p.length l[k].pc) := hrk 6 _ rfl
          have c5 : w.cell? ⟨b, off + k * 9 + 8, none⟩ = some (.slice l[k].ka l[k].keep.length l[k].kc) := hrk 8 _ rfl
          have hs1 := hg.pl
          have hs2 := hg.kl
          have e1 := opsSzM_next hlt
          unfold opSzM at e1
          have HE : Hid _ := e1
          clear e1 hr hrk hg
          generalize l[k] = o at *
          go_wp2_with fail
          go_quiet (fail)
          have hww : (N : Int) + o.p.length + o.keep.length = ((N + (o.p.length + o.keep.length) : Nat) : Int) := by omega
          rw [hww]
          obtain ⟨M, hM⟩ : ∃ M, M = N + (o.p.length + o.keep.length) := ⟨_, rfl⟩
          rw [← hM]
          have HM : Hid (M = l.length + opsSzM (l.take (k + 1)) ∧ M ≤ 1000000000000000) := ⟨by rw [hM, HE.out, HNN.out]; omega, by omega⟩
          clear hM hww c3 c5 hs1 hs2 HE
          go_wp2_with fail
          go_roundw
          case rel => exact ⟨k + 1, by omega, by go_num, by rw [HM.out.1], by rw [← HM.out.1]; exact HM.out.2, ⟨_, rfl⟩⟩
          case measure => simp [intOf]; omega
      · have hd2 : decide ((N : Int) < 2147483647) = false := decide_eq_false hn2
        obtain rfl : bb = true := by
          rw [HBB.out]
          have := opsSzM_take l k
          have := HNN.out
          exact decide_eq_true (by omega)
        go_wp2_with fail
        go_ret
        exact ⟨rfl, below_drewN (Below.refl _ _) _⟩
    · have hd1 : decide ((k : Int) < (l.length : Int)) = false := decide_eq_false (by omega)
      have hkl : k = l.length := by omega
      have hN2 : N = l.length + opsSzM l := by rw [HNN.out, hkl, List.take_length]
      obtain rfl : bb = decide ((2147483647 : Int) ≤ (N : Int)) := by
        rw [HBB.out]
        unfold bydM
        rw [← hN2]
        congr 1
        apply propext
        omega
      clear hN2 hkl
      go_wp2_with fail
      go_ret
      exact ⟨rfl, below_drewN (Below.refl _ _) _⟩
end Go.Proofs.YtdbphdllibffnaaGreat
