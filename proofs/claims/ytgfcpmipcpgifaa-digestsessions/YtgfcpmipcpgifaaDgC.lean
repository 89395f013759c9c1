/- A list of sessions that came in, and the walk of DigestSessions. -/
import Derived.Test.YtgfcpmipcpgifaaDgB
import Derived.Test.YtgfcpmipcpgifaaShell
import Derived.Deep.Slices
namespace Go.Proofs.Ytgfcpmipcpgifaa
open Go.ChangeShapes Go.WideShapes Go.ChangeAt Go.RowKit
set_option maxRecDepth 8000

/-- What holds of a session's numbers. -/
def GoodS (p : Int × Int) : Prop := (-9223372036854775808 ≤ p.1 ∧ p.1 ≤ 9223372036854775807) ∧ (-2147483648 ≤ p.2 ∧ p.2 ≤ 2147483647)

/-- The slice value leads to these sessions. -/
def SeesSs (w : World) (v : Value) (ss : List (Int × Int)) : Prop :=
  ∃ (ao : Option Addr) (cap : Nat), v = .slice ao ss.length cap ∧ ss.length ≤ cap ∧ cap ≤ maxLen ∧ (∀ p ∈ ss, GoodS p) ∧
    (ss = [] ∨ ∃ b off, ao = some ⟨b, off, none⟩ ∧ ∀ i (h : i < ss.length), w.cell? ⟨b, off + i * 2, none⟩ = some (.int .i64 ss[i].1) ∧ w.cell? ⟨b, off + i * 2 + 1, none⟩ = some (.int .i32 ss[i].2))

theorem bounds_i32' {t : Int} (h : Lit.wf (.int .i32 t) = true) : -2147483648 ≤ t ∧ t ≤ 2147483647 := by
  simp [Lit.wf, IntKind.min, IntKind.max, IntKind.signed, IntKind.bits] at h
  exact h

section
variable {H : Type} {enc : TypeId × Value → H} {W : World} {base : Nat} {spare : Nat → Bool} {held : Bool}

theorem open_session {fuel : Nat} {cs : List Value} {x : DataW H × List MemPlace} (h : DataW.trod enc Try.prog W base spare held fuel 26 cs = some x) :
    ∃ p : Int × Int, cs = [.int .i64 p.1, .int .i32 p.2] ∧ GoodS p := by
  have hcells : Try.prog.cellsOf 26 = 2 := by kernel_rfl
  obtain ⟨xs, n, _, hx, hl, hxl, hf⟩ := DataW.trod_struct Try.underlying26 h
  rw [hcells] at hl
  have q1 : Try.prog.cellsOf 2 = 1 := by kernel_rfl
  have q2 : Try.prog.cellsOf 21 = 1 := by kernel_rfl
  have g0 : DataW.trod enc Try.prog W base spare held n 2 ((cs.drop 0).take (Try.prog.cellsOf 2)) = xs[0]? := hf 0 _ rfl
  have g1 : DataW.trod enc Try.prog W base spare held n 21 ((cs.drop 1).take (Try.prog.cellsOf 21)) = xs[1]? := hf 1 _ rfl
  have hxl2 : xs.length = 2 := hxl
  clear hf hxl
  match xs, hxl2, cs, hl with
  | [y0, y1], _, [v0, v1], _ =>
    rw [q1] at g0
    rw [q2] at g1
    obtain ⟨i, e0, _, w0⟩ := DataW.trod_int Try.underlying2 (show DataW.trod enc Try.prog W base spare held n 2 [v0] = some y0 from g0)
    obtain ⟨t, e1, _, w1⟩ := DataW.trod_int Try.underlying21 (show DataW.trod enc Try.prog W base spare held n 21 [v1] = some y1 from g1)
    simp at e0 e1
    subst e0 e1
    have b0 := bounds_i64 w0
    refine ⟨(i, t), rfl, b0, ?_⟩
    exact bounds_i32' w1

theorem open_sessions {fuel : Nat} {a : Option Addr} {len cap : Nat} {x : DataW H × List MemPlace} (h : DataW.trod enc Try.prog W base spare held fuel 22 [.slice a len cap] = some x) :
    ∃ ss : List (Int × Int), ss.length = len ∧ SeesSs W (.slice a len cap) ss := by
  have hcells : Try.prog.cellsOf 26 = 2 := by kernel_rfl
  rcases Deep.open_slice Try.underlying22 h with ⟨hcs, _⟩ | ⟨a', l, c, m, n, D, Pl, hcs, _, hl, hm, hmm, hx, hel⟩
  · simp at hcs
    obtain ⟨rfl, rfl, rfl⟩ := hcs
    exact ⟨[], rfl, ⟨none, 0, rfl, Nat.le_refl _, by unfold maxLen; omega, fun p hp => by simp at hp, .inl rfl⟩⟩
  · simp at hcs
    obtain ⟨rfl, rfl, rfl⟩ := hcs
    have hlm : len ≤ m := by rw [hmm]; split <;> omega
    have each : ∀ i, i < len → ∃ o : Int × Int, GoodS o ∧ ∀ j, j < 2 → W.cell? (a'.add (i * 2 + j)) = [Value.int .i64 o.1, .int .i32 o.2][j]? := by
      intro i hi
      obtain ⟨cs', h1, h2⟩ := hel i (by omega)
      rw [hcells] at h1
      obtain ⟨_, hlen, hcell⟩ := World.cells?_some h1
      obtain ⟨o, e, hg⟩ := open_session h2
      refine ⟨o, hg, fun j hj => ?_⟩
      have := hcell j hj
      rw [Deep.add_add] at this
      rw [← e, this]
    obtain ⟨O, hO⟩ := Deep.choose_lt each
    have hol : ((List.range len).map O).length = len := by simp
    refine ⟨(List.range len).map O, hol, ⟨some a', cap, by rw [hol], by omega, hm, ?_, ?_⟩⟩
    · intro o ho
      obtain ⟨i, hi, rfl⟩ := List.mem_map.1 ho
      exact (hO i (List.mem_range.1 hi)).1
    · by_cases h0 : len = 0
      · subst h0; exact .inl rfl
      · obtain ⟨b, off, spot⟩ := a'
        have hc := (hO 0 (by omega)).2 0 (by omega)
        have hspot : spot = none := by simpa [Addr.add] using World.cell?_spot hc
        subst hspot
        refine .inr ⟨b, off, rfl, fun i hi => ?_⟩
        rw [hol] at hi
        have c := (hO i hi).2
        simp only [addr_add] at c
        simp only [List.getElem_map, List.getElem_range]
        exact ⟨c 0 (by omega), c 1 (by omega)⟩
end

namespace digestSessions
set_option maxHeartbeats 1000000 in
theorem walk (ao : Option Addr) (cap : Nat) (ss : List (Int × Int)) (w : World) (h : SeesSs w (.slice ao ss.length cap) ss) :
    Calls Try.prog 3 #[.slice ao ss.length cap] w fun e w' => e = .returned (.bool true) ∧ Below w.heap.size w w' := by
  obtain ⟨ao', cap', e', hlc, hcm, hg, h3⟩ := h
  simp at e'
  obtain ⟨rfl, rfl⟩ := e'
  unfold maxLen at hcm
  have HG : Hid _ := hg
  clear hg
  by_cases hlong : 2147483647 ≤ (ss.length : Int)
  · clear h3
    go_enter Try.func3, Try.ntmps3
    go_wp2
    go_ret
    exact ⟨rfl, Below.refl _ _⟩
  · go_enter Try.func3, Try.ntmps3
    go_wp2
    go_loopw [3] (fun i wr => ∃ k : Nat, k ≤ ss.length ∧ i = .int .i64 k ∧ Below w.heap.size w wr) (fun i _ => ss.length - (intOf i).toNat)
    case atStart => exact ⟨0, Nat.zero_le _, rfl, Below.refl _ _⟩
    case round =>
      obtain ⟨k, hk, rfl, hbel⟩ := hrel
      by_cases hlt : k < ss.length
      · rcases h3 with h3 | ⟨b, off, rfl, h3⟩
        · subst h3; simp at hlt
        · have hc := cell_later (h3 k hlt).1 hbel (Nat.le_refl _)
          have hc1 := cell_later (h3 k hlt).2 hbel (Nat.le_refl _)
          have hgo : Hid (GoodS ss[k]) := HG.out _ (List.getElem_mem hlt)
          generalize ss[k] = x at *
          have HB : Hid _ := hbel
          clear hbel h3
          go_wp2_with fail
          go_at_call 4
          refine (session_any x.1 x.2 _).mono ?_
          rintro e w1 ⟨rfl, hb1⟩
          have H1 : Hid (Below w.heap.size w w1) := HB.out.trans (hb1.mono HB.out.size)
          have hd := cell_later hc hb1 (Nat.le_refl _)
          have hd1 := cell_later hc1 hb1 (Nat.le_refl _)
          clear hb1 HB hc hc1
          go_wp2_with fail
          go_at_call 5
          refine (refSession_any x.1 x.2 _ hgo.out.1 hgo.out.2).mono ?_
          rintro e w2 ⟨rfl, hb2⟩
          have H2 : Hid (Below w.heap.size w w2) := H1.out.trans (hb2.mono H1.out.size)
          clear hb2 H1 hd hd1
          go_wp2
          go_roundw
          case rel => exact ⟨k + 1, by omega, by go_num, H2.out⟩
          case measure => simp [intOf]; omega
      · obtain rfl : k = ss.length := by omega
        clear h3
        have HB : Hid _ := hbel
        clear hbel
        go_wp2_with fail
        go_at_call 4
        refine (session_any 1 2 _).mono ?_
        rintro e w1 ⟨rfl, hb1⟩
        have H1 : Hid (Below w.heap.size w w1) := HB.out.trans (hb1.mono HB.out.size)
        clear hb1 HB
        go_wp2_with fail
        go_at_call 5
        refine (refSession_any 1 2 _ (by omega) (by omega)).mono ?_
        rintro e w2 ⟨rfl, hb2⟩
        have H2 : Hid (Below w.heap.size w w2) := H1.out.trans (hb2.mono H1.out.size)
        clear hb2 H1
        go_wp2
        go_ret
        exact ⟨by simp, H2.out⟩
end digestSessions
end Go.Proofs.Ytgfcpmipcpgifaa
