/- Watches, changes, lists of watches and scripts of layer 18 that came in, opened; no Go function is walked here. -/
import Derived.Test.YtkcapiblicfboaaGreatDoorWaDJ
import Derived.Deep.Slices
import Derived.SizedLaws
import Derived.ProofKit
import Derived.OpenShut
import Derived.ShutString
import Derived.ChangeOld
import Derived.Deep.DeepHandedRow
import Derived.Test.YtkcapiblicfboaaGreatDoorWaLJ
namespace Go.Proofs.YtkcapiblicfboaaGreatDoor
open Go.ChangeShapes Go.WideShapes Go.ChangeAt Go.RowKit
set_option maxRecDepth 8000

theorem Tryz.own : ownKnob Tryz.prog.godebug = none := by kernel_rfl
theorem Tryz.laidOut : laidOutB Tryz.prog = true := by kernel_rfl

section
variable {H : Type} {enc : TypeId × Value → H} {W : World} {base : Nat} {spare : Nat → Bool} {held : Bool}

theorem open_waC {fuel : Nat} {cs : List Value} {x : DataW H × List MemPlace} (h : DataW.trod enc Tryz.prog W base spare held fuel 57 cs = some x) :
    ∃ y : WaT, cs = [.int .i64 y.1, .int .i8 y.2.1, .string y.2.2] := by
  have hcells : Tryz.prog.cellsOf 57 = 3 := by kernel_rfl
  obtain ⟨xs, n, _, hx, hl, hxl, hf⟩ := DataW.trod_struct Tryz.underlying57 h
  rw [hcells] at hl
  have q1 : Tryz.prog.cellsOf 2 = 1 := by kernel_rfl
  have q2 : Tryz.prog.cellsOf 55 = 1 := by kernel_rfl
  have q3 : Tryz.prog.cellsOf 9 = 1 := by kernel_rfl
  have g0 : DataW.trod enc Tryz.prog W base spare held n 2 ((cs.drop 0).take (Tryz.prog.cellsOf 2)) = xs[0]? := hf 0 _ rfl
  have g1 : DataW.trod enc Tryz.prog W base spare held n 55 ((cs.drop 1).take (Tryz.prog.cellsOf 55)) = xs[1]? := hf 1 _ rfl
  have g2 : DataW.trod enc Tryz.prog W base spare held n 9 ((cs.drop 2).take (Tryz.prog.cellsOf 9)) = xs[2]? := hf 2 _ rfl
  have hxl3 : xs.length = 3 := hxl
  clear hf hxl
  match xs, hxl3, cs, hl with
  | [y0, y1, y2], _, [v0, v1, v2], _ =>
    rw [q1] at g0
    rw [q2] at g1
    rw [q3] at g2
    obtain ⟨a, e0, _, _⟩ := DataW.trod_int Tryz.underlying2 (show DataW.trod enc Tryz.prog W base spare held n 2 [v0] = some y0 from g0)
    obtain ⟨b, e1, _, _⟩ := DataW.trod_int Tryz.underlying55 (show DataW.trod enc Tryz.prog W base spare held n 55 [v1] = some y1 from g1)
    obtain ⟨c, e2, _⟩ := DataW.trod_string Tryz.underlying9 (show DataW.trod enc Tryz.prog W base spare held n 9 [v2] = some y2 from g2)
    simp at e0 e1 e2
    subst e0 e1 e2
    exact ⟨(a, b, c), rfl⟩

theorem open_chC {fuel : Nat} {cs : List Value} {x : DataW H × List MemPlace} (h : DataW.trod enc Tryz.prog W base spare held fuel 59 cs = some x) :
    ∃ y : ChT, cs = [.int .i8 y.1, .string y.2] := by
  have hcells : Tryz.prog.cellsOf 59 = 2 := by kernel_rfl
  obtain ⟨xs, n, _, hx, hl, hxl, hf⟩ := DataW.trod_struct Tryz.underlying59 h
  rw [hcells] at hl
  have q2 : Tryz.prog.cellsOf 55 = 1 := by kernel_rfl
  have q3 : Tryz.prog.cellsOf 9 = 1 := by kernel_rfl
  have g1 : DataW.trod enc Tryz.prog W base spare held n 55 ((cs.drop 0).take (Tryz.prog.cellsOf 55)) = xs[0]? := hf 0 _ rfl
  have g2 : DataW.trod enc Tryz.prog W base spare held n 9 ((cs.drop 1).take (Tryz.prog.cellsOf 9)) = xs[1]? := hf 1 _ rfl
  have hxl3 : xs.length = 2 := hxl
  clear hf hxl
  match xs, hxl3, cs, hl with
  | [y1, y2], _, [v1, v2], _ =>
    rw [q2] at g1
    rw [q3] at g2
    obtain ⟨b, e1, _, _⟩ := DataW.trod_int Tryz.underlying55 (show DataW.trod enc Tryz.prog W base spare held n 55 [v1] = some y1 from g1)
    obtain ⟨c, e2, _⟩ := DataW.trod_string Tryz.underlying9 (show DataW.trod enc Tryz.prog W base spare held n 9 [v2] = some y2 from g2)
    simp at e1 e2
    subst e1 e2
    exact ⟨(b, c), rfl⟩

/-- A step of a script: which board, what, the watch, the change. -/
structure StT where
  place : Int
  what : Int
  wa : WaT
  ch : ChT
abbrev StT.cells (s : StT) : List Value := [.int .i64 s.place, .int .i64 s.what, .int .i64 s.wa.1, .int .i8 s.wa.2.1, .string s.wa.2.2, .int .i8 s.ch.1, .string s.ch.2]
/-- A script in memory. -/
def SeesSt (w : World) (v : Value) (l : List StT) : Prop := ∃ a c, v = .slice a l.length c ∧ l.length ≤ c ∧ (l ≠ [] → ∃ b off, a = some ⟨b, off, none⟩ ∧ ∀ i s, l[i]? = some s → ∀ j u, s.cells[j]? = some u → w.cell? ⟨b, off + i * 7 + j, none⟩ = some u)

theorem open_stC {fuel : Nat} {cs : List Value} {x : DataW H × List MemPlace} (h : DataW.trod enc Tryz.prog W base spare held fuel 61 cs = some x) : ∃ s : StT, cs = s.cells := by
  have hcells : Tryz.prog.cellsOf 61 = 7 := by kernel_rfl
  obtain ⟨xs, n, _, hx, hl, hxl, hf⟩ := DataW.trod_struct Tryz.underlying61 h
  rw [hcells] at hl
  have q1 : Tryz.prog.cellsOf 3 = 1 := by kernel_rfl
  have q2 : Tryz.prog.cellsOf 57 = 3 := by kernel_rfl
  have q3 : Tryz.prog.cellsOf 59 = 2 := by kernel_rfl
  have g0 : DataW.trod enc Tryz.prog W base spare held n 3 ((cs.drop 0).take (Tryz.prog.cellsOf 3)) = xs[0]? := hf 0 _ rfl
  have g1 : DataW.trod enc Tryz.prog W base spare held n 3 ((cs.drop 1).take (Tryz.prog.cellsOf 3)) = xs[1]? := hf 1 _ rfl
  have g2 : DataW.trod enc Tryz.prog W base spare held n 57 ((cs.drop 2).take (Tryz.prog.cellsOf 57)) = xs[2]? := hf 2 _ rfl
  have g3 : DataW.trod enc Tryz.prog W base spare held n 59 ((cs.drop 5).take (Tryz.prog.cellsOf 59)) = xs[3]? := hf 3 _ rfl
  have hxl3 : xs.length = 4 := hxl
  clear hf hxl
  match xs, hxl3, cs, hl with
  | [y0, y1, y2, y3], _, [v0, v1, v2, v3, v4, v5, v6], _ =>
    rw [q1] at g0 g1
    rw [q2] at g2
    rw [q3] at g3
    obtain ⟨a, e0, _, _⟩ := DataW.trod_int Tryz.underlying3 (show DataW.trod enc Tryz.prog W base spare held n 3 [v0] = some y0 from g0)
    obtain ⟨b, e1, _, _⟩ := DataW.trod_int Tryz.underlying3 (show DataW.trod enc Tryz.prog W base spare held n 3 [v1] = some y1 from g1)
    obtain ⟨wa, e2⟩ := open_waC (show DataW.trod enc Tryz.prog W base spare held n 57 [v2, v3, v4] = some y2 from g2)
    obtain ⟨ch, e3⟩ := open_chC (show DataW.trod enc Tryz.prog W base spare held n 59 [v5, v6] = some y3 from g3)
    simp only [List.cons.injEq, and_true] at e0 e1 e2 e3
    obtain ⟨rfl, rfl, rfl⟩ := e2
    obtain ⟨rfl, rfl⟩ := e3
    subst e0 e1
    exact ⟨⟨a, b, wa, ch⟩, rfl⟩

theorem open_steps {fuel : Nat} {v : Value} {x : DataW H × List MemPlace} (h : DataW.trod enc Tryz.prog W base spare held fuel 22 [v] = some x) (hw : (x.1.weights Tryz.prog 22).all (· ≤ reachBytes) = true) :
    ∃ l : List StT, SeesSt W v l ∧ l.length ≤ 140737488355328 := by
  have hcells : Tryz.prog.cellsOf 61 = 7 := by kernel_rfl
  rcases Deep.open_slice Tryz.underlying22 h with ⟨hcs, _⟩ | ⟨a', len, cap, m, n, D, Pl, hcs, _, hl, hm, hmm, hx, hel⟩
  · simp at hcs
    subst hcs
    exact ⟨[], ⟨none, 0, rfl, Nat.le_refl _, fun e => absurd rfl e⟩, Nat.zero_le _⟩
  · simp at hcs
    subst hcs
    have hlm : len ≤ m := by rw [hmm]; split <;> omega
    have hbo : Tryz.prog.bytesOf 61 = 72 := by kernel_rfl
    rw [hx] at hw
    simp only [DataW.weights, Tryz.underlying22, hbo, List.all_cons, List.all_append, Bool.and_eq_true, decide_eq_true_eq] at hw
    have each : ∀ i, i < len → ∃ o : StT, ∀ j, j < 7 → W.cell? (a'.add (i * 7 + j)) = o.cells[j]? := by
      intro i hi
      obtain ⟨cs', h1, h2⟩ := hel i (by omega)
      rw [hcells] at h1
      obtain ⟨_, hlen, hcell⟩ := World.cells?_some h1
      obtain ⟨o, e⟩ := open_stC h2
      refine ⟨o, fun j hj => ?_⟩
      have := hcell j hj
      rw [Deep.add_add] at this
      rw [← e, this]
    have : Inhabited StT := ⟨⟨0, 0, (0, 0, ⟨#[]⟩), (0, ⟨#[]⟩)⟩⟩
    obtain ⟨O, hO⟩ := Deep.choose_lt each
    have hol : ((List.range len).map O).length = len := by simp
    refine ⟨(List.range len).map O, ⟨some a', cap, by rw [hol], by omega, fun hne => ?_⟩, ?_⟩
    · have h0 : len ≠ 0 := fun e => hne (by subst e; rfl)
      obtain ⟨b, off, spot⟩ := a'
      have hc := hO 0 (by omega) 0 (by omega)
      have hc' : W.cell? ((⟨b, off, spot⟩ : Addr).add (0 * 7 + 0)) = some (.int .i64 (O 0).place) := hc
      have hspot : spot = none := by simpa [Addr.add] using World.cell?_spot hc'
      subst hspot
      refine ⟨b, off, rfl, fun i s hs j u hj => ?_⟩
      have hi : i < len := by rw [← hol]; exact (List.getElem?_eq_some_iff.1 hs).1
      have c := hO i hi
      simp only [Addr.add_lit] at c
      have es : s = O i := by
        have := (List.getElem?_eq_some_iff.1 hs).2
        simpa using this.symm
      subst es
      have hj7 : j < 7 := (List.getElem?_eq_some_iff.1 hj).1
      rw [Nat.add_assoc, c j hj7, hj]
    · rw [hol]
      have h1 := hw.1
      simp at h1
      have hr := reachBytes_lt
      have h47 : (2 : Nat) ^ 47 = 140737488355328 := by decide
      omega

end
end Go.Proofs.YtkcapiblicfboaaGreatDoor

/- What has and long of the statements of layer 18, and EqWatches of two lists of the same data answer. -/
namespace Go.Proofs.YtkcapiblicfboaaGreatDoor
open Go.RowKit Go.Shelf
set_option maxRecDepth 8000
set_option linter.unusedSimpArgs false

theorem neqWaV (x y : WaT) (w : World) : (binOp .neq 57 (.agg (waCs x)) (.agg (waCs y))).run Tryz.prog w = .ok (.bool (!waEq x y)) w := by
  rw [run_neq_struct, show (10000 : Nat) = 9998 + 1 + 1 from rfl, eqWaG 9998 x y w]
  rfl

set_option maxHeartbeats 1000000 in
theorem eqWatches_same {w : World} {v u : Value} {l : List WaT} (hv : SW w v l) (hu : SW w u l) (hlen : l.length ≤ 2000000000) :
    Calls Tryz.prog 15 #[v, u] w fun e w' => e = .returned (.bool true) ∧ Below w.heap.size w w' := by
  obtain ⟨ao, cap, rfl, hcap, hc⟩ := hv
  obtain ⟨bo, cap2, rfl, hcap2, hc2⟩ := hu
  have HC0 : Hid (l ≠ [] → ∃ b off, ao = some ⟨b, off, none⟩ ∧ ∀ i x, l[i]? = some x → w.cell? ⟨b, off + i * 3, none⟩ = some (.int .i64 x.1) ∧ w.cell? ⟨b, off + i * 3 + 1, none⟩ = some (.int .i8 x.2.1) ∧ w.cell? ⟨b, off + i * 3 + 2, none⟩ = some (.string x.2.2)) := hc
  have HC2 : Hid (l ≠ [] → ∃ b off, bo = some ⟨b, off, none⟩ ∧ ∀ i x, l[i]? = some x → w.cell? ⟨b, off + i * 3, none⟩ = some (.int .i64 x.1) ∧ w.cell? ⟨b, off + i * 3 + 1, none⟩ = some (.int .i8 x.2.1) ∧ w.cell? ⟨b, off + i * 3 + 2, none⟩ = some (.string x.2.2)) := hc2
  clear hc hc2
  go_enter Tryz.func15, Tryz.ntmps15
  go_wp2
  go_loopw [5] (fun vi wr => ∃ i : Nat, i ≤ l.length ∧ vi = .int .i64 (i : Int) ∧ Hid (Below w.heap.size w wr)) (fun vi _ => l.length - (intOf vi).toNat)
  case atStart => exact ⟨0, by omega, rfl, Below.refl _ _⟩
  case round =>
    obtain ⟨i, hi, rfl, HW⟩ := hrel
    by_cases hlt : i < l.length
    · have hd : decide ((i : Int) < (l.length : Int)) = true := by simp; omega
      obtain ⟨b0, off, hao, hcx⟩ := HC0.out (fun e => by rw [e] at hlt; simp at hlt)
      obtain ⟨b1, off1, hbo, hcy⟩ := HC2.out (fun e => by rw [e] at hlt; simp at hlt)
      obtain ⟨y, hy⟩ : ∃ y, l[i]? = some y := ⟨_, List.getElem?_eq_getElem hlt⟩
      obtain ⟨k0, k1, k2⟩ := hcx i y hy
      obtain ⟨j0, j1, j2⟩ := hcy i y hy
      have l0 := cellB HW.out k0
      have l1 := cellB HW.out k1
      have l2 := cellB HW.out k2
      have d0 := cellB HW.out j0
      have d1 := cellB HW.out j1
      have d2 := cellB HW.out j2
      have hz0 : b0 < wr.heap.size := World.block_lt_of_cell? wr _ l0
      have hz1 : b1 < wr.heap.size := World.block_lt_of_cell? wr _ d0
      have heq : ∀ W, (binOp .neq 57 (.agg #[.int .i64 y.1, .int .i8 y.2.1, .string y.2.2]) (.agg #[.int .i64 y.1, .int .i8 y.2.1, .string y.2.2])).run Tryz.prog W = .ok (.bool false) W := fun W => by
        have := neqWaV y y W
        rw [waEq_self] at this
        exact this
      subst hao hbo
      clear hcx hcy hy k0 k1 k2 j0 j1 j2
      go_upto_region 6 with fail
      go_quiet (fail)
      go_wp2
      go_roundw
      case rel => exact ⟨i + 1, by omega, by simp, below_drewN HW.out _⟩
      case measure => simp [intOf]; omega
    · have hd : decide ((i : Int) < (l.length : Int)) = false := by simp; omega
      go_wp2
      all_goals (go_ret; exact ⟨rfl, HW.out⟩)

/-- A step whose texts are not long. -/
def StT.few (s : StT) : Prop := s.wa.2.2.size ≤ 536870911 ∧ s.ch.2.size ≤ 536870911

set_option maxHeartbeats 2000000 in
theorem long18 {w : World} {v : Value} {l : List StT} (hv : SeesSt w v l) (hlen : l.length ≤ 140737488355328) :
    Calls Tryz.prog 4 #[v] w fun e w' => ∃ bl, e = .returned (.bool bl) ∧ (bl = false → l.length ≤ 1073741823 ∧ ∀ s ∈ l, s.few) ∧ Below w.heap.size w w' := by
  obtain ⟨ao, cap, rfl, hcap, hc⟩ := hv
  have HC0 : Hid (l ≠ [] → ∃ b off, ao = some ⟨b, off, none⟩ ∧ ∀ i s, l[i]? = some s → ∀ j u, s.cells[j]? = some u → w.cell? ⟨b, off + i * 7 + j, none⟩ = some u) := hc
  clear hc
  go_enter Tryz.func4, Tryz.ntmps4
  go_wp2
  go_loopw [3, 4] (fun vn vi wr => ∃ i n : Nat, i ≤ l.length ∧ vi = .int .i64 (i : Int) ∧ vn = .int .i64 (n : Int) ∧ i ≤ n ∧ n ≤ 2147483646 ∧ Hid ((∀ s ∈ l.take i, s.few) ∧ Below w.heap.size w wr)) (fun _ vi _ => l.length - (intOf vi).toNat)
  case atStart => exact ⟨0, 0, by omega, rfl, rfl, by omega, by omega, fun s hs => by simp at hs, Below.refl _ _⟩
  case round =>
    obtain ⟨i, n, hi, rfl, rfl, hin, hn, HW⟩ := hrel
    by_cases hlt : i < l.length
    · have hd : decide ((i : Int) < (l.length : Int)) = true := by simp; omega
      by_cases hn2 : n ≤ 1073741823
      · have hd2 : decide ((n : Int) ≤ 1073741823) = true := by simp; omega
        obtain ⟨b0, off, hao, hcx⟩ := HC0.out (fun e => by rw [e] at hlt; simp at hlt)
        obtain ⟨s, hs⟩ : ∃ s, l[i]? = some s := ⟨_, List.getElem?_eq_getElem hlt⟩
        have k4 := cellB HW.out.2 (hcx i s hs 4 _ rfl)
        have k6 := cellB HW.out.2 (hcx i s hs 6 _ rfl)
        have hz0 : b0 < wr.heap.size := World.block_lt_of_cell? wr _ k4
        by_cases h1 : s.wa.2.2.size ≤ 536870911
        · have e1 : decide ((536870911 : Int) < (s.wa.2.2.size : Int)) = false := by simp; omega
          by_cases h2 : s.ch.2.size ≤ 536870911
          · have e2 : decide ((536870911 : Int) < (s.ch.2.size : Int)) = false := by simp; omega
            have HN : Hid (∀ s ∈ l.take (i + 1), s.few) := fun t ht => by
              rw [List.take_add_one, hs] at ht
              rcases List.mem_append.1 ht with ht | ht
              · exact HW.out.1 t ht
              · simp at ht; subst ht; exact ⟨h1, h2⟩
            subst hao
            clear hcx hs
            go_upto_region 8 with fail
            go_quiet (fail)
            go_wp2
            go_roundw
            case rel => exact ⟨i + 1, n + 1 + s.wa.2.2.size + s.ch.2.size, by omega, by simp, by simp, by omega, by omega, HN.out, below_drewN HW.out.2 _⟩
            case measure => simp [intOf]; omega
          · have e2 : decide ((536870911 : Int) < (s.ch.2.size : Int)) = true := by simp; omega
            subst hao
            clear hcx hs
            go_wp2
            all_goals (go_ret; exact ⟨true, rfl, (fun e => by cases e), HW.out.2⟩)
        · have e1 : decide ((536870911 : Int) < (s.wa.2.2.size : Int)) = true := by simp; omega
          subst hao
          clear hcx hs
          go_wp2
          all_goals (go_ret; exact ⟨true, rfl, (fun e => by cases e), HW.out.2⟩)
      · have hd2 : decide ((n : Int) ≤ 1073741823) = false := by simp; omega
        have hd3 : decide ((1073741823 : Int) < (n : Int)) = true := by simp; omega
        go_wp2
        all_goals (go_ret; exact ⟨true, rfl, (fun e => by cases e), HW.out.2⟩)
    · have hd : decide ((i : Int) < (l.length : Int)) = false := by simp; omega
      have HE : Hid (n ≤ 1073741823 → l.length ≤ 1073741823 ∧ ∀ s ∈ l, s.few) := fun hn => by
        have := HW.out.1
        rw [List.take_of_length_le (by omega)] at this
        exact ⟨by omega, this⟩
      by_cases hn2 : n ≤ 1073741823
      · have hd3 : decide ((1073741823 : Int) < (n : Int)) = false := by simp; omega
        go_wp2
        all_goals (go_ret; exact ⟨false, rfl, fun _ => HE.out hn2, HW.out.2⟩)
      · have hd3 : decide ((1073741823 : Int) < (n : Int)) = true := by simp; omega
        go_wp2
        all_goals (go_ret; exact ⟨true, rfl, (fun e => by cases e), HW.out.2⟩)

end Go.Proofs.YtkcapiblicfboaaGreatDoor
