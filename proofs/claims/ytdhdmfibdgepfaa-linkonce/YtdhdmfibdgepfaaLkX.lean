/- LinkOnce's walk. -/
import Derived.Test.YtdhdmfibdgepfaaLkW
import Derived.Deep.CutRange
namespace Go.Proofs.Ytdhdmfibdgepfaa
open Go.RowKit
set_option maxRecDepth 8000
set_option linter.unusedSimpArgs false
set_option linter.unusedVariables false

def lenS : Value → Nat
  | .slice _ n _ => n
  | _ => 0
/-- Cells of a list of one's own, one cell each. -/
theorem row1_at {w : World} {base c : Nat} {T : TypeId} {a : Option Addr} {l : List BbT} (h : w.ownsRow base T 1 (.slice a l.length c) l.length (l.map BbT.v)) {j : Nat} {o : BbT} (hj : l[j]? = some o) : ∃ g, a = some ⟨g, 0, none⟩ ∧ g < w.heap.size ∧ w.cell? ⟨g, j, none⟩ = some (.slice o.ba o.bs.length o.bc) := by
  obtain ⟨_, ⟨e, h0⟩ | ⟨g, cap, cur, e, a2, a3, a4, a5, a6, a7⟩⟩ := h
  · rw [List.length_eq_zero_iff.1 h0] at hj; simp at hj
  · simp only [Value.slice.injEq] at e
    refine ⟨g, e.1, lt_of_block a3, ?_⟩
    rw [cell_of_row w g _ _ _ _ a3, ← Array.getElem?_toList]
    have hjl : j < l.length := (List.getElem?_eq_some_iff.1 hj).1
    have h1 : (cur.toList.take (l.length * 1))[j]? = (l.map BbT.v)[j]? := by rw [a7]
    rw [List.getElem?_take, if_pos (by omega), List.getElem?_map, hj] at h1
    exact h1

set_option maxHeartbeats 16000000 in
theorem once_walk22 (tv : Value) (l : List BbT) (pv : Value) (ps : List Int) (w : World) (hs : SeesBb w tv l) (hlen : l.length ≤ 140737488355328) (hp : SeesNl w pv ps) (hplen : ps.length ≤ 140737488355328) :
    Calls Try.prog 4 #[tv, pv] w fun e w' => e = .returned (.bool true) ∧ Below w.heap.size w w' := by
  obtain ⟨ao, cap, rfl, hcap, hg, hc⟩ := hs
  obtain ⟨po, pcap, rfl, hpcap, hpg, hpc⟩ := hp
  have HG : Hid (∀ o ∈ l, GoodBb w o) := hg
  have HC : Hid (∀ W, Below w.heap.size w W → ∀ (i : Nat) (o : BbT), l[i]? = some o → ∃ b off, ao = some ⟨b, off, none⟩ ∧ b < W.heap.size ∧ W.cell? ⟨b, off + i, none⟩ = some (.slice o.ba o.bs.length o.bc)) := fun W hW i o hi => by
    obtain ⟨b, off, e, h1⟩ := hc (fun e => by subst e; simp at hi)
    have h2 := (Below.kept hW).cell (h1 i o hi) (by have := World.block_lt_of_cell? w _ (h1 i o hi); simp at this; show ¬ w.heap.size ≤ b; omega)
    exact ⟨b, off, e, World.block_lt_of_cell? W _ h2, h2⟩
  have HP : Hid (∀ W, Below w.heap.size w W → ∀ (i : Nat) (n : Int), ps[i]? = some n → ∃ b off, po = some ⟨b, off, none⟩ ∧ b < W.heap.size ∧ W.cell? ⟨b, off + i, none⟩ = some (.int .i64 n)) := fun W hW i o hi => by
    obtain ⟨b, off, e, h1⟩ := hpc (fun e => by subst e; simp at hi)
    have h2 := (Below.kept hW).cell (h1 i o hi) (by have := World.block_lt_of_cell? w _ (h1 i o hi); simp at this; show ¬ w.heap.size ≤ b; omega)
    exact ⟨b, off, e, World.block_lt_of_cell? W _ h2, h2⟩
  have HPB : Hid (∀ n ∈ ps, -9223372036854775808 ≤ n ∧ n ≤ 9223372036854775807) := hpg
  clear hg hc hpg hpc
  go_enter Try.func4, Try.ntmps4
  go_wp2_with fail
  refine Calls.mono (works22 w) ?_
  rintro _ w1 ⟨rfl, b1⟩
  have H1 : Hid (Below w.heap.size w w1) := b1
  clear b1
  go_wp2_with fail
  go_loopw [6] (fun vi wr => ∃ i : Nat, i ≤ l.length ∧ i ≤ 40 ∧ vi = .int .i64 (i : Int) ∧ Hid ((∀ t ∈ l.take i, t.bs.length ≤ 4194304) ∧ Below w.heap.size w wr)) (fun vi _ => l.length - (intOf vi).toNat)
  case atStart => exact ⟨0, by omega, by omega, rfl, fun t ht => by simp at ht, H1.out⟩
  case round =>
    clear H1
    obtain ⟨i, hi, h40, rfl, HW⟩ := hrel
    by_cases hlt : i < l.length ∧ i < 40
    · have hd : decide ((i : Int) < (l.length : Int)) = true := decide_eq_true (by omega)
      have hd2 : decide ((i : Int) < 40) = true := decide_eq_true (by omega)
      obtain ⟨o, ho⟩ : ∃ o, l[i]? = some o := ⟨_, List.getElem?_eq_getElem hlt.1⟩
      obtain ⟨sb, soff, rfl, hz, q0⟩ := HC.out wr HW.out.2 i o ho
      have hlt1 := hlt.1
      by_cases hbig : 4194304 < o.bs.length
      · have hd3 : decide ((4194304 : Int) < (o.bs.length : Int)) = true := decide_eq_true (by omega)
        go_wp2_with fail
        all_goals (go_ret; exact ⟨rfl, HW.out.2⟩)
      · have hd3 : decide ((4194304 : Int) < (o.bs.length : Int)) = false := decide_eq_false (by omega)
        have HN : Hid (∀ t ∈ l.take (i + 1), t.bs.length ≤ 4194304) := fun t ht => by
          rw [take_atL ho] at ht
          rcases List.mem_append.1 ht with ht | ht
          · exact HW.out.1 t ht
          · simp at ht; subst ht; omega
        clear ho
        go_wp2_with fail
        go_roundw
        case rel => exact ⟨i + 1, by omega, by omega, by simp, HN.out, HW.out.2⟩
        case measure => simp [intOf]; omega
    · have HF : Hid ((∀ t ∈ l.take 40, t.bs.length ≤ 4194304) ∧ Below w.heap.size w wr) := by
        refine ⟨fun t ht => HW.out.1 t ?_, HW.out.2⟩
        rcases Nat.lt_or_ge i 40 with h | h
        · rw [List.take_of_length_le (by omega)]
          exact List.mem_of_mem_take ht
        · rw [show i = 40 by omega]; exact ht
      clear HW
      by_cases h41 : l.length ≤ 40
      · have hx1 : ¬ i < l.length := by omega
        have hd : decide ((i : Int) < (l.length : Int)) = false := decide_eq_false (by omega)
        clear hlt
        have HNW : Hid _ := new_good wr 3 (by decide) (by decide)
        have hsz := HF.out.2.size
        go_wp2_with fail
        refine Calls.mono HNW.out ?_
        rintro _ w3 ⟨rfl, h3, b3⟩
        have HA : Hid (OnI w w3 wr.heap.size (.slice none 0 0) [] []) := ⟨HF.out.2.trans (b3.mono hsz), ⟨_, [], h3, trivial, fun k hk => by
          rcases hk with rfl | hk | ⟨m, hm, _⟩
          · exact hsz
          · simp [Value.ownBlock] at hk
          · simp at hm⟩, World.ownsRow_nil _ _ _ _⟩
        have HFT : Hid (∀ t ∈ l.take 40, t.bs.length ≤ 4194304) := HF.out.1
        clear h3 b3 HNW HF hsz
        generalize wr.heap.size = b at *
        clear hd hi h40 hx1
        try clear hd2 hx2
        go_wp2_with fail
        go_loopw [9, 10] (fun vs vi wr => ∃ (i : Nat) (L : List BbT) (sa : Option Addr) (sc : Nat), i ≤ l.length ∧ i ≤ 40 ∧ vi = .int .i64 (i : Int) ∧ vs = .slice sa L.length sc ∧ L.length ≤ i ∧ Hid (OnI w wr b (.slice sa L.length sc) L L ∧ ∀ t ∈ L, GoodBb w t)) (fun _ vi _ => l.length - (intOf vi).toNat)
        case atStart => exact ⟨0, [], none, 0, by omega, by omega, rfl, rfl, by simp, HA.out, fun t ht => by simp at ht⟩
        case round =>
          clear HA
          obtain ⟨i, L, sa, sc, hi, h40, rfl, rfl, hLi, HJ⟩ := hrel
          by_cases hlt : i < l.length ∧ i < 40
          · have hd : decide ((i : Int) < (l.length : Int)) = true := decide_eq_true (by omega)
            have hd2 : decide ((i : Int) < 40) = true := decide_eq_true (by omega)
            obtain ⟨o, ho⟩ : ∃ o, l[i]? = some o := ⟨_, List.getElem?_eq_getElem hlt.1⟩
            obtain ⟨sb, soff, rfl, hz, q0⟩ := HC.out wr HJ.out.1.bel i o ho
            have hlt1 := hlt.1
            have HO : Hid (GoodBb w o) := HG.out o (List.mem_of_getElem? ho)
            have HCP : Hid (∀ W, Below w.heap.size w W → ∃ z, z = sb ∧ sb < W.heap.size ∧ W.cell? ⟨sb, soff + i, none⟩ = some (.slice o.ba o.bs.length o.bc)) := fun W hW => by
              obtain ⟨b', off', e, h1, h2⟩ := HC.out W hW i o ho
              simp only [Option.some.injEq, Addr.mk.injEq, and_true] at e
              obtain ⟨rfl, rfl⟩ := e
              exact ⟨_, rfl, h1, h2⟩
            have hob : o.bs.length ≤ 4194304 := HFT.out o (by
              apply List.mem_of_getElem? (i := i)
              rw [List.getElem?_take, if_pos hlt.2]; exact ho)
            clear ho
            go_wp2_with fail
            refine Calls.mono (copyBytes_any _ o.bs _ ((HO.out.below HJ.out.1.bel).se) (by omega)) ?_
            rintro _ w4 ⟨v4, rfl, ho4, hb4⟩
            obtain ⟨a4, c4, rfl⟩ := rowSl ho4
            have H4 : Hid ((OnI w w4 b (.slice sa L.length sc) L L ∧ ∀ t ∈ L, GoodBb w t) ∧ Owns w4 0 (.slice a4 o.bs.length c4) o.bs) := ⟨⟨HJ.out.1.below hb4, HJ.out.2⟩, row_lowerl ho4 (Nat.zero_le _)⟩
            clear ho4 hb4 HJ q0 hz
            obtain ⟨nv, ms, hn1, hn2, hn4⟩ := H4.out.1.1.net
            have HNT : Hid (Nt w4 b 3 nv ms ∧ AreT ms L ∧ ∀ k, Fn b nv ms k → w.heap.size ≤ k) := ⟨hn1, hn2, hn4⟩
            have hml : ms.length ≤ 100000000 := by have := hn2.len; omega
            clear hn1 hn2 hn4
            have hok : okS 3 2 0 o.bs.length = (decide (1 ≤ o.bs.length) && decide (o.bs.length ≤ 8192)) := by simp [okS, hasL]
            go_wp2_with fail
            cases hk : okS 3 2 0 o.bs.length with
            | false =>
              refine Calls.mono (send_no HNT.out.1 2 0 (by decide) (by decide) (by decide) (by decide) a4 o.bs.length c4 hk) ?_
              rintro _ w5 ⟨rfl, rfl⟩
              obtain ⟨_, _, hz, q0⟩ := HCP.out w5 H4.out.1.1.bel
              have HJ : Hid (OnI w w5 b (.slice sa L.length sc) L L ∧ ∀ t ∈ L, GoodBb w t) := H4.out.1
              clear H4 HNT
              rw [hk] at hok
              by_cases hl0 : o.bs.length = 0
              · have hd3 : decide ((0 : Int) < (o.bs.length : Int)) = false := decide_eq_false (by omega)
                have hd3' : decide (0 < o.bs.length) = false := decide_eq_false (by omega)
                clear hok hk
                go_wp2_with fail
                go_roundw
                case rel => exact ⟨i + 1, L, sa, sc, by omega, by omega, by simp, rfl, by omega, HJ.out⟩
                case measure => simp [intOf]; omega
              · have hd3 : decide ((0 : Int) < (o.bs.length : Int)) = true := decide_eq_true (by omega)
                have hd3' : decide (0 < o.bs.length) = true := decide_eq_true (by omega)
                have hd4 : decide ((o.bs.length : Int) ≤ 8192) = false := decide_eq_false (fun h => by
                  have h1 : decide (1 ≤ o.bs.length) = true := decide_eq_true (by omega)
                  have h2 : decide (o.bs.length ≤ 8192) = true := decide_eq_true (by omega)
                  rw [h1, h2] at hok; cases hok)
                clear hok hk
                go_wp2_with fail
                go_roundw
                case rel => exact ⟨i + 1, L, sa, sc, by omega, by omega, by simp, rfl, by omega, HJ.out⟩
                case measure => simp [intOf]; omega
            | true =>
              obtain ⟨g4, rfl⟩ : ∃ g, a4 = some ⟨g, 0, none⟩ := by
                have hl1 : 1 ≤ o.bs.length := by
                  have := hk
                  simp only [okS, Bool.and_eq_true, decide_eq_true_eq] at this
                  exact this.1.2
                obtain ⟨_, ⟨e, h0⟩ | ⟨g, c, cur, e, _⟩⟩ := H4.out.2
                · omega
                · simp only [Value.slice.injEq] at e; exact ⟨g, e.1⟩
              refine Calls.mono (send_yes HNT.out.1 2 0 (by decide) (by decide) (by decide) (by decide) g4 0 c4 o.bs (Sees.own H4.out.2) HO.out.by' hml hk) ?_
              rintro _ w5 ⟨rfl, nv', R, g1, g2, g3, g5⟩
              have H5 : Hid (OnI w w5 b (.slice sa L.length sc) L (L ++ [o])) := H4.out.1.1.send HNT.out.1 HNT.out.2.1 HNT.out.2.2 g1 g2 g3 g5
              have HGL : Hid (∀ t ∈ L ++ [o], GoodBb w t) := fun t ht => by
                rcases List.mem_append.1 ht with ht | ht
                · exact H4.out.1.2 t ht
                · simp at ht; subst ht; exact HO.out
              clear g1 g2 g3 g5 H4 HNT hok hk
              obtain ⟨_, _, hz, q0⟩ := HCP.out w5 H5.out.bel
              have HJ6 := H5.out.below (oneL w5 (.cells #[.slice o.ba o.bs.length o.bc] 30))
              obtain ⟨sv7, w7, hr, ho7, hk7⟩ := app_bb (x := o) HJ6.row (heap_alloc_new w5 (.cells #[.slice o.ba o.bs.length o.bc] 30)) (by omega) HJ6.bel.size
              obtain ⟨a7, c7, rfl⟩ := rowSl ho7
              have HJ : Hid (OnI w w7 b (.slice a7 (L ++ [o]).length c7) (L ++ [o]) (L ++ [o])) := HJ6.app hk7 ho7
              clear HJ6 ho7 hk7 H5
              go_wp2_with (at_builtin; refine wpList_appL _ rfl _ _ 44 rfl _ _ rfl rfl (hr _) ?_)
              clear hr
              go_roundw
              case rel => exact ⟨i + 1, L ++ [o], a7, c7, by omega, by omega, by simp, by first | rfl | simp, by simp; omega, HJ.out, HGL.out⟩
              case measure => simp [intOf]; omega
          · skip
            have hx1 : ¬ i < l.length := by omega
            have hd : decide ((i : Int) < (l.length : Int)) = false := decide_eq_false (by omega)
            clear hlt
            have hL40 : L.length ≤ 40 := by omega
            go_wp2_with fail
            clear hd hi h40 hLi hx1
            try clear hd2 hx2
            go_loopw [9, 11] (fun vs vi wr => ∃ (i : Nat) (L : List BbT) (sa : Option Addr) (sc : Nat), vs = .slice sa L.length sc ∧ vi = .int .i64 (i : Int) ∧ i + L.length ≤ 40 ∧ Hid (OnI w wr b (.slice sa L.length sc) L L ∧ ∀ t ∈ L, GoodBb w t)) (fun vs _ _ => lenS vs)
            case atStart => exact ⟨0, L, sa, sc, rfl, rfl, by omega, HJ.out⟩
            case round =>
              clear HJ hL40
              obtain ⟨i2, L2, sa2, sc2, rfl, rfl, hil, HJ⟩ := hrel
              by_cases hL : 0 < L2.length
              · have hd : decide ((0 : Int) < (L2.length : Int)) = true := decide_eq_true (by omega)
                go_upto_region 22 with fail
                by_cases h1 : i2 < ps.length
                · have hd1 : decide ((i2 : Int) < (ps.length : Int)) = true := decide_eq_true (by omega)
                  obtain ⟨n, hn⟩ : ∃ n, ps[i2]? = some n := ⟨_, List.getElem?_eq_getElem h1⟩
                  obtain ⟨pb, poff, rfl, hz, q0⟩ := HP.out wr HJ.out.1.bel i2 n hn
                  have hnb := HPB.out n (List.mem_of_getElem? hn)
                  clear hn
                  by_cases h2 : 0 ≤ n
                  · have hd2 : decide (0 ≤ n) = true := decide_eq_true h2
                    obtain ⟨k, hk⟩ : ∃ k : Nat, n % (L2.length : Int) = (k : Int) := ⟨(n % (L2.length : Int)).toNat, by
                      have := Int.emod_nonneg n (b := (L2.length : Int)) (by omega)
                      omega⟩
                    have hkl : k < L2.length := by
                      have := Int.emod_lt_of_pos n (b := (L2.length : Int)) (by omega)
                      omega
                    go_wp2_with fail
                    rw [hk]
                    clear hk hd2 h2 hd1 h1 hnb hz q0
                    obtain ⟨A, x, B, hLL, hA⟩ := split_at (l := L2) (p := k) hkl
                    obtain ⟨nv, ms, hn1, hn2, hn4⟩ := HJ.out.1.net
                    rw [hLL] at hn2
                    obtain ⟨A', x', B', hms, hA', hxx, hab⟩ := hn2.split
                    have hnl := hn2.len
                    subst hms
                    have HN : Hid (L2.length = A.length + B.length + 1) := by show L2.length = _; rw [hLL]; simp; omega
                    obtain ⟨lg, rfl⟩ : ∃ lg, sa2 = some ⟨lg, 0, none⟩ := by
                      obtain ⟨g, e, _⟩ := row1_at HJ.out.1.row (j := k) (o := x) (by rw [hLL, ← hA, List.getElem?_append_right (Nat.le_refl _), Nat.sub_self]; rfl)
                      exact ⟨g, e⟩
                    have HD : Hid (Calls Try.prog 13 #[.pointer (some ⟨b, 0, none⟩), .int .i64 (k : Int)] wr fun e w' => e = .returned (.tuple #[.agg x'.cs.toArray, .int .i64 0]) ∧ ∃ v', Nt w' b 3 v' (A' ++ B') ∧ Kept wr w' (fun k => k = b ∨ nv.ownBlock = some k) ∧ v'.ownBlock = nv.ownBlock ∧ MsOk w' x') := by
                      have := take_yes hn1 (by rw [hnl, List.length_append, List.length_cons]; have := HN.out; omega)
                      rw [hA', hA] at this
                      exact this
                    have HTK : Hid (∀ w' v', Nt w' b 3 v' (A' ++ B') → Kept wr w' (fun k => k = b ∨ nv.ownBlock = some k) → v'.ownBlock = nv.ownBlock → OnI w w' b (.slice (some ⟨lg, 0, none⟩) L2.length sc2) L2 (A ++ B)) := fun w' v' e1 e2 e3 => HJ.out.1.take hn1 hn4 hab e1 e2 e3
                    have HGD : Hid ((∀ t ∈ L2, GoodBb w t) ∧ L2 = A ++ x :: B ∧ A.length = k) := ⟨HJ.out.2, hLL, hA⟩
                    have HXX : Hid (x'.bs = x.bs ∧ x'.sp = false) := hxx
                    have HLAB : Hid ((A' ++ B').length = (A ++ B).length) := hab.len
                    clear hn1 hn2 hn4 hnl hab HJ hLL hA hA' hxx
                    refine Calls.mono HD.out ?_
                    rintro _ w4 ⟨rfl, nv', g1, g2, g3, g4⟩
                    obtain ⟨w5, hw5⟩ : ∃ w5, w5 = w4.alloc (.cells x'.cs.toArray 38) := ⟨_, rfl⟩
                    have HJ5 : Hid ((OnI w w5 b (.slice (some ⟨lg, 0, none⟩) L2.length sc2) L2 (A ++ B) ∧ w5.heap[w4.heap.size]? = some (.cells x'.cs.toArray 38 (0, 0))) ∧ Sees w5 x'.v x'.bs) := by
                      rw [hw5]
                      exact ⟨⟨(HTK.out w4 nv' g1 g2 g3).below (oneL w4 _), heap_alloc_new w4 _⟩, g4.sees.below (oneL w4 _) (Nat.le_refl _)⟩
                    clear g1 g2 g3 g4 HD HTK
                    go_upto_region 25 with fail
                    rw [← hw5]
                    clear hw5
                    generalize w4.heap.size = mb at *
                    have HIN : Hid (∀ W, Below w5.heap.size w5 W → (W.cell? ⟨mb, 2, none⟩ = some x'.v ∧ W.cell? ⟨mb, 3, none⟩ = some (.bool false) ∧ W.cell? ⟨lg, k, none⟩ = some (.slice x.ba x.bs.length x.bc) ∧ mb < W.heap.size ∧ lg < W.heap.size) ∧ Sees W x'.v x'.bs ∧ Sees W (.slice x.ba x.bs.length x.bc) x.bs ∧ Calls Try.prog 15 #[.pointer (some ⟨b, 0, none⟩)] W fun e w' => e = .returned (.int .i64 ((L2.length : Int) - 1)) ∧ w' = W) := fun W hW => by
                      have hm := boxL HJ5.out.1.2 hW
                      have hJW := HJ5.out.1.1.below hW
                      have hxk : L2[k]? = some x := by rw [HGD.out.2.1, ← HGD.out.2.2, List.getElem?_append_right (Nat.le_refl _), Nat.sub_self]; rfl
                      obtain ⟨g, e, e1, e2⟩ := row1_at hJW.row hxk
                      simp only [Option.some.injEq, Addr.mk.injEq, and_true] at e
                      subst e
                      obtain ⟨v2, ms2, n1, n2, _⟩ := hJW.net
                      have hgx := (HGD.out.1 x (List.mem_of_getElem? hxk)).se
                      refine ⟨⟨by rw [cell_of_row _ _ _ _ _ _ hm]; rfl, by rw [cell_of_row _ _ _ _ _ _ hm, ← HXX.out.2]; rfl, e2, lt_of_block hm, e1⟩, HJ5.out.2.below hW (Nat.le_refl _), hgx.below hJW.bel (Nat.le_refl _), ?_⟩
                      have := len_anyL n1
                      rw [n2.len] at this
                      rw [show ((L2.length : Int) - 1) = (((A ++ B).length : Nat) : Int) by have := HN.out; rw [List.length_append]; omega]
                      exact this
                    have S0 : (w5.drew.cell? ⟨mb, 2, none⟩ = some x'.v ∧ w5.drew.cell? ⟨mb, 3, none⟩ = some (.bool false) ∧ w5.drew.cell? ⟨lg, k, none⟩ = some (.slice x.ba x.bs.length x.bc) ∧ mb < w5.drew.heap.size ∧ lg < w5.drew.heap.size) ∧ Below w5.heap.size w5 w5.drew := ⟨(HIN.out _ (below_drewN (Below.refl _ _) 1)).1, below_drewN (Below.refl _ _) 1⟩
                    have ew : IntKind.i64.wrap ((L2.length : Int) - 1) = (L2.length : Int) - 1 := by rw [IntKind.wrap_i64]; omega
                    refine wp_region_held_drew (S := (fun W => (W.cell? ⟨mb, 2, none⟩ = some x'.v ∧ W.cell? ⟨mb, 3, none⟩ = some (.bool false) ∧ W.cell? ⟨lg, k, none⟩ = some (.slice x.ba x.bs.length x.bc) ∧ mb < W.heap.size ∧ lg < W.heap.size) ∧ Below w5.heap.size w5 W)) (by kernel_rfl) ?_ (fun hHeld => ?_)
                    · exact S0
                    refine wpAnyH_take (i := 0) (oi := { dst := some 115, op := Op.move (Operand.tmp 14), type := 26, pos := "law.go:234", after := #[], guard := none }) (v := ?_) rfl (by kernel_rfl) (by kernel_rfl) (by kernel_rfl) (fun _ _ _ h => h) (Or.inl ⟨by rfl, ?_⟩) (by assumption) ?_
                    rotate_left
                    · (intro w hSw; (try dsimp only at hSw); obtain ⟨⟨s2, s3, s4, s5, s6⟩, _⟩ := hSw; go_simp) <;> with_reducible rfl
                    try simp only [Act.put, List.setIfInBounds_toArray, List.set_cons_zero, List.set_cons_succ]
                    refine wpAnyH_take (i := 1) (oi := { dst := some 116, op := Op.binOp BinOp.neq 26 (Operand.tmp 115) (Operand.const (Value.int IntKind.i64 0)) 26, type := 4, pos := "law.go:234", after := #[{ on := 0, ground := Ground.data }], guard := none }) (v := ?_) rfl (by kernel_rfl) (by kernel_rfl) (by kernel_rfl) (fun _ _ _ h => h) (Or.inl ⟨by rfl, ?_⟩) (by assumption) ?_
                    rotate_left
                    · (intro w hSw; (try dsimp only at hSw); obtain ⟨⟨s2, s3, s4, s5, s6⟩, _⟩ := hSw; go_simp) <;> with_reducible rfl
                    try simp only [Act.put, List.setIfInBounds_toArray, List.set_cons_zero, List.set_cons_succ]
                    refine wpAnyH_take (i := 2) (oi := { dst := some 117, op := Op.move (Operand.tmp 116), type := 4, pos := "law.go:234", after := #[{ on := 1, ground := Ground.data }], guard := none }) (v := ?_) rfl (by kernel_rfl) (by kernel_rfl) (by kernel_rfl) (fun _ _ _ h => h) (Or.inl ⟨by rfl, ?_⟩) (by assumption) ?_
                    rotate_left
                    · (intro w hSw; (try dsimp only at hSw); obtain ⟨⟨s2, s3, s4, s5, s6⟩, _⟩ := hSw; go_simp) <;> with_reducible rfl
                    try simp only [Act.put, List.setIfInBounds_toArray, List.set_cons_zero, List.set_cons_succ]
                    refine wpAnyH_take (i := 3) (oi := { dst := some 118, op := Op.fieldAddr 38 (Operand.tmp 13) 2, type := 0, pos := "law.go:234", after := #[{ on := 2, ground := Ground.guard }], guard := some (2, false) }) (v := ?_) rfl (by kernel_rfl) (by kernel_rfl) (by kernel_rfl) (fun _ _ _ h => h) (Or.inl ⟨by rfl, ?_⟩) (by assumption) ?_
                    rotate_left
                    · (intro w hSw; (try dsimp only at hSw); obtain ⟨⟨s2, s3, s4, s5, s6⟩, _⟩ := hSw; go_simp) <;> with_reducible rfl
                    try simp only [Act.put, List.setIfInBounds_toArray, List.set_cons_zero, List.set_cons_succ]
                    refine wpAnyH_take (i := 4) (oi := { dst := some 119, op := Op.load 30 (Operand.tmp 118), type := 30, pos := "law.go:234", after := #[{ on := 3, ground := Ground.data }, { on := 2, ground := Ground.guard }], guard := some (2, false) }) (v := ?_) rfl (by kernel_rfl) (by kernel_rfl) (by kernel_rfl) (fun _ _ _ h => h) (Or.inl ⟨by rfl, ?_⟩) (by assumption) ?_
                    rotate_left
                    · (intro w hSw; (try dsimp only at hSw); obtain ⟨⟨s2, s3, s4, s5, s6⟩, _⟩ := hSw; go_simp) <;> with_reducible rfl
                    try simp only [Act.put, List.setIfInBounds_toArray, List.set_cons_zero, List.set_cons_succ]
                    refine wpAnyH_take (i := 5) (oi := { dst := some 120, op := Op.move (Operand.tmp 9), type := 44, pos := "law.go:234", after := #[{ on := 2, ground := Ground.guard }], guard := some (2, false) }) (v := ?_) rfl (by kernel_rfl) (by kernel_rfl) (by kernel_rfl) (fun _ _ _ h => h) (Or.inl ⟨by rfl, ?_⟩) (by assumption) ?_
                    rotate_left
                    · (intro w hSw; (try dsimp only at hSw); obtain ⟨⟨s2, s3, s4, s5, s6⟩, _⟩ := hSw; go_simp) <;> with_reducible rfl
                    try simp only [Act.put, List.setIfInBounds_toArray, List.set_cons_zero, List.set_cons_succ]
                    refine wpAnyH_take (i := 6) (oi := { dst := some 121, op := Op.move (Operand.tmp 12), type := 3, pos := "law.go:234", after := #[{ on := 2, ground := Ground.guard }], guard := some (2, false) }) (v := ?_) rfl (by kernel_rfl) (by kernel_rfl) (by kernel_rfl) (fun _ _ _ h => h) (Or.inl ⟨by rfl, ?_⟩) (by assumption) ?_
                    rotate_left
                    · (intro w hSw; (try dsimp only at hSw); obtain ⟨⟨s2, s3, s4, s5, s6⟩, _⟩ := hSw; go_simp) <;> with_reducible rfl
                    try simp only [Act.put, List.setIfInBounds_toArray, List.set_cons_zero, List.set_cons_succ]
                    refine wpAnyH_take (i := 7) (oi := { dst := some 122, op := Op.indexAddr 44 (Operand.tmp 120) (Operand.tmp 121), type := 0, pos := "law.go:234", after := #[{ on := 5, ground := Ground.data }, { on := 6, ground := Ground.data }, { on := 2, ground := Ground.guard }], guard := some (2, false) }) (v := ?_) rfl (by kernel_rfl) (by kernel_rfl) (by kernel_rfl) (fun _ _ _ h => h) (Or.inl ⟨by rfl, ?_⟩) (by assumption) ?_
                    rotate_left
                    · (intro w hSw; (try dsimp only at hSw); obtain ⟨⟨s2, s3, s4, s5, s6⟩, _⟩ := hSw; go_simp) <;> with_reducible rfl
                    try simp only [Act.put, List.setIfInBounds_toArray, List.set_cons_zero, List.set_cons_succ]
                    refine wpAnyH_take (i := 8) (oi := { dst := some 123, op := Op.load 30 (Operand.tmp 122), type := 30, pos := "law.go:234", after := #[{ on := 7, ground := Ground.data }, { on := 2, ground := Ground.guard }], guard := some (2, false) }) (v := ?_) rfl (by kernel_rfl) (by kernel_rfl) (by kernel_rfl) (fun _ _ _ h => h) (Or.inl ⟨by rfl, ?_⟩) (by assumption) ?_
                    rotate_left
                    · (intro w hSw; (try dsimp only at hSw); obtain ⟨⟨s2, s3, s4, s5, s6⟩, _⟩ := hSw; go_simp) <;> with_reducible rfl
                    try simp only [Act.put, List.setIfInBounds_toArray, List.set_cons_zero, List.set_cons_succ]
                    refine wpAnyH_ready (rs := [9]) (by kernel_rfl) (by simp) ?_
                    refine AllReadyH.cons (o := { dst := some 124, op := Op.call { callee := Callee.value (Operand.func 16), args := #[Operand.tmp 119, Operand.tmp 123], argTypes := #[30, 30] }, type := 4, pos := "law.go:234", after := #[{ on := 4, ground := Ground.data }, { on := 8, ground := Ground.data }, { on := 2, ground := Ground.chain }, { on := 2, ground := Ground.guard }], guard := some (2, false) }) rfl (fun K hK => ?_) AllReadyH.nil
                    go_simp
                    refine Calls.mono (eqBytes_any _ _ x'.bs x.bs _ (HIN.out _ hHeld.2).2.1 (HIN.out _ hHeld.2).2.2.1) ?_
                    rw [decide_eq_true HXX.out.1]
                    rintro _ w6 ⟨rfl, n6, e6⟩
                    have b6 : Below w5.heap.size w5 w6 := by rw [e6]; exact below_drewN hHeld.2 n6
                    clear e6 hHeld
                    refine hK.out _ _ ⟨(HIN.out _ b6).1, b6⟩ (fun hHeld => ?_)
                    clear hK K
                    refine wpAnyH_take (i := 10) (oi := { dst := some 125, op := Op.unOp UnOp.not 4 (Operand.tmp 124), type := 4, pos := "law.go:234", after := #[{ on := 9, ground := Ground.data }, { on := 2, ground := Ground.guard }], guard := some (2, false) }) (v := ?_) rfl (by kernel_rfl) (by kernel_rfl) (by kernel_rfl) (fun _ _ _ h => h) (Or.inl ⟨by rfl, ?_⟩) (by assumption) ?_
                    rotate_left
                    · (intro w hSw; (try dsimp only at hSw); obtain ⟨⟨s2, s3, s4, s5, s6⟩, _⟩ := hSw; go_simp) <;> with_reducible rfl
                    try simp only [Act.put, List.setIfInBounds_toArray, List.set_cons_zero, List.set_cons_succ]
                    refine wpAnyH_take (i := 11) (oi := { dst := some 126, op := Op.pick (Operand.tmp 117) (Operand.const (Value.bool true)) (Operand.tmp 125), type := 4, pos := "law.go:234", after := #[{ on := 2, ground := Ground.data }, { on := 10, ground := Ground.data }], guard := none }) (v := ?_) rfl (by kernel_rfl) (by kernel_rfl) (by kernel_rfl) (fun _ _ _ h => h) (Or.inl ⟨by rfl, ?_⟩) (by assumption) ?_
                    rotate_left
                    · (intro w hSw; (try dsimp only at hSw); obtain ⟨⟨s2, s3, s4, s5, s6⟩, _⟩ := hSw; go_simp) <;> with_reducible rfl
                    try simp only [Act.put, List.setIfInBounds_toArray, List.set_cons_zero, List.set_cons_succ]
                    refine wpAnyH_take (i := 12) (oi := { dst := some 127, op := Op.move (Operand.tmp 126), type := 4, pos := "law.go:234", after := #[{ on := 11, ground := Ground.data }, { on := 9, ground := Ground.chain }], guard := none }) (v := ?_) rfl (by kernel_rfl) (by kernel_rfl) (by kernel_rfl) (fun _ _ _ h => h) (Or.inl ⟨by rfl, ?_⟩) (by assumption) ?_
                    rotate_left
                    · (intro w hSw; (try dsimp only at hSw); obtain ⟨⟨s2, s3, s4, s5, s6⟩, _⟩ := hSw; go_simp) <;> with_reducible rfl
                    try simp only [Act.put, List.setIfInBounds_toArray, List.set_cons_zero, List.set_cons_succ]
                    refine wpAnyH_take (i := 13) (oi := { dst := some 128, op := Op.fieldAddr 38 (Operand.tmp 13) 3, type := 0, pos := "law.go:234", after := #[{ on := 12, ground := Ground.guard }], guard := some (12, false) }) (v := ?_) rfl (by kernel_rfl) (by kernel_rfl) (by kernel_rfl) (fun _ _ _ h => h) (Or.inl ⟨by rfl, ?_⟩) (by assumption) ?_
                    rotate_left
                    · (intro w hSw; (try dsimp only at hSw); obtain ⟨⟨s2, s3, s4, s5, s6⟩, _⟩ := hSw; go_simp) <;> with_reducible rfl
                    try simp only [Act.put, List.setIfInBounds_toArray, List.set_cons_zero, List.set_cons_succ]
                    refine wpAnyH_take (i := 14) (oi := { dst := some 129, op := Op.load 4 (Operand.tmp 128), type := 4, pos := "law.go:234", after := #[{ on := 13, ground := Ground.data }, { on := 12, ground := Ground.guard }], guard := some (12, false) }) (v := ?_) rfl (by kernel_rfl) (by kernel_rfl) (by kernel_rfl) (fun _ _ _ h => h) (Or.inl ⟨by rfl, ?_⟩) (by assumption) ?_
                    rotate_left
                    · (intro w hSw; (try dsimp only at hSw); obtain ⟨⟨s2, s3, s4, s5, s6⟩, _⟩ := hSw; go_simp) <;> with_reducible rfl
                    try simp only [Act.put, List.setIfInBounds_toArray, List.set_cons_zero, List.set_cons_succ]
                    refine wpAnyH_take (i := 15) (oi := { dst := some 130, op := Op.pick (Operand.tmp 127) (Operand.const (Value.bool true)) (Operand.tmp 129), type := 4, pos := "law.go:234", after := #[{ on := 12, ground := Ground.data }, { on := 14, ground := Ground.data }], guard := none }) (v := ?_) rfl (by kernel_rfl) (by kernel_rfl) (by kernel_rfl) (fun _ _ _ h => h) (Or.inl ⟨by rfl, ?_⟩) (by assumption) ?_
                    rotate_left
                    · (intro w hSw; (try dsimp only at hSw); obtain ⟨⟨s2, s3, s4, s5, s6⟩, _⟩ := hSw; go_simp) <;> with_reducible rfl
                    try simp only [Act.put, List.setIfInBounds_toArray, List.set_cons_zero, List.set_cons_succ]
                    refine wpAnyH_take (i := 16) (oi := { dst := some 131, op := Op.move (Operand.tmp 130), type := 4, pos := "law.go:234", after := #[{ on := 15, ground := Ground.data }, { on := 12, ground := Ground.chain }], guard := none }) (v := ?_) rfl (by kernel_rfl) (by kernel_rfl) (by kernel_rfl) (fun _ _ _ h => h) (Or.inl ⟨by rfl, ?_⟩) (by assumption) ?_
                    rotate_left
                    · (intro w hSw; (try dsimp only at hSw); obtain ⟨⟨s2, s3, s4, s5, s6⟩, _⟩ := hSw; go_simp) <;> with_reducible rfl
                    try simp only [Act.put, List.setIfInBounds_toArray, List.set_cons_zero, List.set_cons_succ]
                    refine wpAnyH_take (i := 17) (oi := { dst := some 132, op := Op.move (Operand.tmp 7), type := 25, pos := "law.go:234", after := #[{ on := 16, ground := Ground.guard }], guard := some (16, false) }) (v := ?_) rfl (by kernel_rfl) (by kernel_rfl) (by kernel_rfl) (fun _ _ _ h => h) (Or.inl ⟨by rfl, ?_⟩) (by assumption) ?_
                    rotate_left
                    · (intro w hSw; (try dsimp only at hSw); obtain ⟨⟨s2, s3, s4, s5, s6⟩, _⟩ := hSw; go_simp) <;> with_reducible rfl
                    try simp only [Act.put, List.setIfInBounds_toArray, List.set_cons_zero, List.set_cons_succ]
                    refine wpAnyH_take (i := 19) (oi := { dst := some 134, op := Op.move (Operand.tmp 9), type := 44, pos := "law.go:234", after := #[{ on := 16, ground := Ground.guard }], guard := some (16, false) }) (v := ?_) rfl (by kernel_rfl) (by kernel_rfl) (by kernel_rfl) (fun _ _ _ h => h) (Or.inl ⟨by rfl, ?_⟩) (by assumption) ?_
                    rotate_left
                    · (intro w hSw; (try dsimp only at hSw); obtain ⟨⟨s2, s3, s4, s5, s6⟩, _⟩ := hSw; go_simp) <;> with_reducible rfl
                    try simp only [Act.put, List.setIfInBounds_toArray, List.set_cons_zero, List.set_cons_succ]
                    refine wpAnyH_take (i := 20) (oi := { dst := some 135, op := Op.call { callee := Callee.builtin Builtin.len, args := #[Operand.tmp 134], argTypes := #[44] }, type := 3, pos := "law.go:234", after := #[{ on := 19, ground := Ground.data }, { on := 16, ground := Ground.guard }], guard := some (16, false) }) (v := ?_) rfl (by kernel_rfl) (by kernel_rfl) (by kernel_rfl) (fun _ _ _ h => h) (Or.inl ⟨by rfl, ?_⟩) (by assumption) ?_
                    rotate_left
                    · (intro w hSw; (try dsimp only at hSw); obtain ⟨⟨s2, s3, s4, s5, s6⟩, _⟩ := hSw; go_simp) <;> with_reducible rfl
                    try simp only [Act.put, List.setIfInBounds_toArray, List.set_cons_zero, List.set_cons_succ]
                    refine wpAnyH_take (i := 21) (oi := { dst := some 136, op := Op.binOp BinOp.sub 3 (Operand.tmp 135) (Operand.const (Value.int IntKind.i64 1)) 3, type := 3, pos := "law.go:234", after := #[{ on := 20, ground := Ground.data }, { on := 16, ground := Ground.guard }], guard := some (16, false) }) (v := ?_) rfl (by kernel_rfl) (by kernel_rfl) (by kernel_rfl) (fun _ _ _ h => h) (Or.inl ⟨by rfl, ?_⟩) (by assumption) ?_
                    rotate_left
                    · (intro w hSw; (try dsimp only at hSw); obtain ⟨⟨s2, s3, s4, s5, s6⟩, _⟩ := hSw; go_simp) <;> with_reducible rfl
                    try simp only [Act.put, List.setIfInBounds_toArray, List.set_cons_zero, List.set_cons_succ]
                    refine wpAnyH_ready (rs := [18]) (by kernel_rfl) (by simp) ?_
                    refine AllReadyH.cons (o := { dst := some 133, op := Op.call { callee := Callee.value (Operand.func 15), args := #[Operand.tmp 132], argTypes := #[25] }, type := 3, pos := "law.go:234", after := #[{ on := 17, ground := Ground.data }, { on := 16, ground := Ground.chain }, { on := 16, ground := Ground.guard }], guard := some (16, false) }) rfl (fun K hK => ?_) AllReadyH.nil
                    go_simp
                    refine Calls.mono (HIN.out _ hHeld.2).2.2.2 ?_
                    rintro _ w7 ⟨rfl, rfl⟩
                    refine hK.out _ _ hHeld (fun hHeld => ?_)
                    clear hK K
                    refine wpAnyH_take (i := 22) (oi := { dst := some 137, op := Op.binOp BinOp.neq 3 (Operand.tmp 133) (Operand.tmp 136) 3, type := 4, pos := "law.go:234", after := #[{ on := 18, ground := Ground.data }, { on := 21, ground := Ground.data }, { on := 16, ground := Ground.guard }], guard := some (16, false) }) (v := ?_) rfl (by kernel_rfl) (by kernel_rfl) (by kernel_rfl) (fun _ _ _ h => h) (Or.inl ⟨by rfl, ?_⟩) (by assumption) ?_
                    rotate_left
                    · (intro w hSw; (try dsimp only at hSw); obtain ⟨⟨s2, s3, s4, s5, s6⟩, _⟩ := hSw; go_simp) <;> with_reducible rfl
                    try simp only [Act.put, List.setIfInBounds_toArray, List.set_cons_zero, List.set_cons_succ]
                    refine wpAnyH_take (i := 23) (oi := { dst := some 138, op := Op.pick (Operand.tmp 131) (Operand.const (Value.bool true)) (Operand.tmp 137), type := 4, pos := "law.go:234", after := #[{ on := 16, ground := Ground.data }, { on := 22, ground := Ground.data }], guard := none }) (v := ?_) rfl (by kernel_rfl) (by kernel_rfl) (by kernel_rfl) (fun _ _ _ h => h) (Or.inl ⟨by rfl, ?_⟩) (by assumption) ?_
                    rotate_left
                    · (intro w hSw; (try dsimp only at hSw); obtain ⟨⟨s2, s3, s4, s5, s6⟩, _⟩ := hSw; go_simp) <;> with_reducible rfl
                    try simp only [Act.put, List.setIfInBounds_toArray, List.set_cons_zero, List.set_cons_succ]
                    refine wpAnyH_done (by kernel_rfl) ?_ _
                    have H7 : Hid (Below w5.heap.size w5 w7) := hHeld.2
                    clear hHeld S0
                    go_wp2_with fail
                    go_loopw [15, 16] (fun vr vj wq => ∃ (j : Nat) (R : List BbT) (ra : Option Addr) (rc : Nat), j ≤ L2.length ∧ vj = .int .i64 (j : Int) ∧ vr = .slice ra R.length rc ∧ Hid (R = restL A B j ∧ Below w7.heap.size w7 wq ∧ wq.ownsRow w7.heap.size 30 1 (.slice ra R.length rc) R.length (R.map BbT.v))) (fun _ vj _ => L2.length - (intOf vj).toNat)
                    case atStart => exact ⟨0, [], none, 0, by omega, rfl, rfl, (restL_zero A B).symm, Below.refl _ _, World.ownsRow_nil _ _ _ _⟩
                    case round =>
                      obtain ⟨j, R, ra, rc, hj, rfl, rfl, HR⟩ := hrel
                      rename World => wq
                      have HJQ : Hid (OnI w wq b (.slice (some ⟨lg, 0, none⟩) L2.length sc2) L2 (A ++ B)) := HJ5.out.1.1.below (H7.out.trans (HR.out.2.1.mono H7.out.size))
                      by_cases hjl : j < L2.length
                      · have hd3 : decide ((j : Int) < (L2.length : Int)) = true := decide_eq_true (by omega)
                        obtain ⟨o', ho'⟩ : ∃ o', L2[j]? = some o' := ⟨_, List.getElem?_eq_getElem hjl⟩
                        obtain ⟨g, e, hz, q0⟩ := row1_at HJQ.out.row ho'
                        simp only [Option.some.injEq, Addr.mk.injEq, and_true] at e
                        subst e
                        by_cases hjk : j = k
                        · have dq : ((j : Int) == (k : Int)) = true := by simp; omega
                          have HR2 : Hid (R = restL A B (j + 1)) := by
                            show R = _
                            rw [HR.out.1, hjk, ← HGD.out.2.2, restL_skip]
                          go_wp2_with fail
                          go_roundw
                          case rel => exact ⟨j + 1, R, ra, rc, by omega, by simp <;> omega, rfl, HR2.out, HR.out.2.1, HR.out.2.2⟩
                          case measure => simp [intOf]; omega
                        · have dq : ((j : Int) == (k : Int)) = false := by simp; omega
                          have HR2 : Hid (R ++ [o'] = restL A B (j + 1)) := by
                            show _ = _
                            rw [HR.out.1]
                            exact (restL_next (x := x) (by rw [← HGD.out.2.1]; exact ho') (by rw [HGD.out.2.2]; exact hjk)).symm
                          have hRl : R.length ≤ j := by rw [HR.out.1]; exact restL_len A B j
                          have bq := oneL wq (.cells #[.slice o'.ba o'.bs.length o'.bc] 30)
                          obtain ⟨sv8, w8, hr, ho8, hk8⟩ := app_bb (x := o') (rowKl HR.out.2.2 (Below.kept bq) (fun g hg => by have := (HR.out.2.2.lt g hg).2; omega)) (heap_alloc_new wq (.cells #[.slice o'.ba o'.bs.length o'.bc] 30)) (by omega) (Nat.le_trans HR.out.2.1.size bq.size)
                          obtain ⟨a8, c8, rfl⟩ := rowSl ho8
                          have HR8 : Hid (Below w7.heap.size w7 w8 ∧ w8.ownsRow w7.heap.size 30 1 (.slice a8 (R ++ [o']).length c8) (R ++ [o']).length ((R ++ [o']).map BbT.v)) := by
                            refine ⟨(HR.out.2.1.trans (bq.mono HR.out.2.1.size)).trans (hk8.below (Nat.le_trans HR.out.2.1.size bq.size) (fun k e => (HR.out.2.2.lt k e).1)), ho8⟩
                          clear bq ho8 hk8 ho'
                          go_wp2_with (at_builtin; refine wpList_appL _ rfl _ _ 44 rfl _ _ rfl rfl (hr _) ?_)
                          clear hr
                          go_roundw
                          case rel => exact ⟨j + 1, R ++ [o'], a8, c8, by omega, by simp, by first | rfl | simp, HR2.out, HR8.out.1, HR8.out.2⟩
                          case measure => simp [intOf]; omega
                      · have hd3 : decide ((j : Int) < (L2.length : Int)) = false := decide_eq_false (by omega)
                        obtain rfl : R = A ++ B := by
                          rw [HR.out.1, show j = L2.length by omega, HGD.out.2.1, restL_all]
                        have HJN : Hid (OnI w wq b (.slice ra (A ++ B).length rc) (A ++ B) (A ++ B) ∧ ∀ t ∈ A ++ B, GoodBb w t) := by
                          refine ⟨⟨HJQ.out.bel, HJQ.out.net, row_lowerl HR.out.2.2 (Nat.le_trans HJ5.out.1.1.bel.size H7.out.size)⟩, fun t ht => HGD.out.1 t ?_⟩
                          rw [HGD.out.2.1]
                          rcases List.mem_append.1 ht with ht | ht
                          · exact List.mem_append_left _ ht
                          · exact List.mem_append_right _ (List.mem_cons_of_mem _ ht)
                        clear HJQ HR
                        go_wp2_with fail
                        go_roundw
                        case rel => exact ⟨i2 + 1, A ++ B, ra, rc, by first | rfl | simp, by simp, by have := HN.out; simp; omega, HJN.out⟩
                        case measure => (have := HN.out; simp [lenS]; omega)
                  · have hd2 : decide (0 ≤ n) = false := decide_eq_false h2
                    have hkl : 0 < L2.length := hL
                    go_wp2_with fail
                    clear hd2 h2 hd1 h1 hnb hz q0
                    obtain ⟨A, x, B, hLL, hA⟩ := split_at (l := L2) (p := 0) hkl
                    obtain ⟨nv, ms, hn1, hn2, hn4⟩ := HJ.out.1.net
                    rw [hLL] at hn2
                    obtain ⟨A', x', B', hms, hA', hxx, hab⟩ := hn2.split
                    have hnl := hn2.len
                    subst hms
                    have HN : Hid (L2.length = A.length + B.length + 1) := by show L2.length = _; rw [hLL]; simp; omega
                    obtain ⟨lg, rfl⟩ : ∃ lg, sa2 = some ⟨lg, 0, none⟩ := by
                      obtain ⟨g, e, _⟩ := row1_at HJ.out.1.row (j := 0) (o := x) (by rw [hLL, ← hA, List.getElem?_append_right (Nat.le_refl _), Nat.sub_self]; rfl)
                      exact ⟨g, e⟩
                    have HD : Hid (Calls Try.prog 13 #[.pointer (some ⟨b, 0, none⟩), .int .i64 0] wr fun e w' => e = .returned (.tuple #[.agg x'.cs.toArray, .int .i64 0]) ∧ ∃ v', Nt w' b 3 v' (A' ++ B') ∧ Kept wr w' (fun k => k = b ∨ nv.ownBlock = some k) ∧ v'.ownBlock = nv.ownBlock ∧ MsOk w' x') := by
                      have := take_yes hn1 (by rw [hnl, List.length_append, List.length_cons]; have := HN.out; omega)
                      rw [hA', hA] at this
                      exact this
                    have HTK : Hid (∀ w' v', Nt w' b 3 v' (A' ++ B') → Kept wr w' (fun k => k = b ∨ nv.ownBlock = some k) → v'.ownBlock = nv.ownBlock → OnI w w' b (.slice (some ⟨lg, 0, none⟩) L2.length sc2) L2 (A ++ B)) := fun w' v' e1 e2 e3 => HJ.out.1.take hn1 hn4 hab e1 e2 e3
                    have HGD : Hid ((∀ t ∈ L2, GoodBb w t) ∧ L2 = A ++ x :: B ∧ A.length = 0) := ⟨HJ.out.2, hLL, hA⟩
                    have HXX : Hid (x'.bs = x.bs ∧ x'.sp = false) := hxx
                    have HLAB : Hid ((A' ++ B').length = (A ++ B).length) := hab.len
                    clear hn1 hn2 hn4 hnl hab HJ hLL hA hA' hxx
                    refine Calls.mono HD.out ?_
                    rintro _ w4 ⟨rfl, nv', g1, g2, g3, g4⟩
                    obtain ⟨w5, hw5⟩ : ∃ w5, w5 = w4.alloc (.cells x'.cs.toArray 38) := ⟨_, rfl⟩
                    have HJ5 : Hid ((OnI w w5 b (.slice (some ⟨lg, 0, none⟩) L2.length sc2) L2 (A ++ B) ∧ w5.heap[w4.heap.size]? = some (.cells x'.cs.toArray 38 (0, 0))) ∧ Sees w5 x'.v x'.bs) := by
                      rw [hw5]
                      exact ⟨⟨(HTK.out w4 nv' g1 g2 g3).below (oneL w4 _), heap_alloc_new w4 _⟩, g4.sees.below (oneL w4 _) (Nat.le_refl _)⟩
                    clear g1 g2 g3 g4 HD HTK
                    go_upto_region 25 with fail
                    rw [← hw5]
                    clear hw5
                    generalize w4.heap.size = mb at *
                    have HIN : Hid (∀ W, Below w5.heap.size w5 W → (W.cell? ⟨mb, 2, none⟩ = some x'.v ∧ W.cell? ⟨mb, 3, none⟩ = some (.bool false) ∧ W.cell? ⟨lg, 0, none⟩ = some (.slice x.ba x.bs.length x.bc) ∧ mb < W.heap.size ∧ lg < W.heap.size) ∧ Sees W x'.v x'.bs ∧ Sees W (.slice x.ba x.bs.length x.bc) x.bs ∧ Calls Try.prog 15 #[.pointer (some ⟨b, 0, none⟩)] W fun e w' => e = .returned (.int .i64 ((L2.length : Int) - 1)) ∧ w' = W) := fun W hW => by
                      have hm := boxL HJ5.out.1.2 hW
                      have hJW := HJ5.out.1.1.below hW
                      have hxk : L2[0]? = some x := by rw [HGD.out.2.1, ← HGD.out.2.2, List.getElem?_append_right (Nat.le_refl _), Nat.sub_self]; rfl
                      obtain ⟨g, e, e1, e2⟩ := row1_at hJW.row hxk
                      simp only [Option.some.injEq, Addr.mk.injEq, and_true] at e
                      subst e
                      obtain ⟨v2, ms2, n1, n2, _⟩ := hJW.net
                      have hgx := (HGD.out.1 x (List.mem_of_getElem? hxk)).se
                      refine ⟨⟨by rw [cell_of_row _ _ _ _ _ _ hm]; rfl, by rw [cell_of_row _ _ _ _ _ _ hm, ← HXX.out.2]; rfl, e2, lt_of_block hm, e1⟩, HJ5.out.2.below hW (Nat.le_refl _), hgx.below hJW.bel (Nat.le_refl _), ?_⟩
                      have := len_anyL n1
                      rw [n2.len] at this
                      rw [show ((L2.length : Int) - 1) = (((A ++ B).length : Nat) : Int) by have := HN.out; rw [List.length_append]; omega]
                      exact this
                    have S0 : (w5.drew.cell? ⟨mb, 2, none⟩ = some x'.v ∧ w5.drew.cell? ⟨mb, 3, none⟩ = some (.bool false) ∧ w5.drew.cell? ⟨lg, 0, none⟩ = some (.slice x.ba x.bs.length x.bc) ∧ mb < w5.drew.heap.size ∧ lg < w5.drew.heap.size) ∧ Below w5.heap.size w5 w5.drew := ⟨(HIN.out _ (below_drewN (Below.refl _ _) 1)).1, below_drewN (Below.refl _ _) 1⟩
                    have ew : IntKind.i64.wrap ((L2.length : Int) - 1) = (L2.length : Int) - 1 := by rw [IntKind.wrap_i64]; omega
                    refine wp_region_held_drew (S := (fun W => (W.cell? ⟨mb, 2, none⟩ = some x'.v ∧ W.cell? ⟨mb, 3, none⟩ = some (.bool false) ∧ W.cell? ⟨lg, 0, none⟩ = some (.slice x.ba x.bs.length x.bc) ∧ mb < W.heap.size ∧ lg < W.heap.size) ∧ Below w5.heap.size w5 W)) (by kernel_rfl) ?_ (fun hHeld => ?_)
                    · exact S0
                    refine wpAnyH_take (i := 0) (oi := { dst := some 115, op := Op.move (Operand.tmp 14), type := 26, pos := "law.go:234", after := #[], guard := none }) (v := ?_) rfl (by kernel_rfl) (by kernel_rfl) (by kernel_rfl) (fun _ _ _ h => h) (Or.inl ⟨by rfl, ?_⟩) (by assumption) ?_
                    rotate_left
                    · (intro w hSw; (try dsimp only at hSw); obtain ⟨⟨s2, s3, s4, s5, s6⟩, _⟩ := hSw; go_simp) <;> with_reducible rfl
                    try simp only [Act.put, List.setIfInBounds_toArray, List.set_cons_zero, List.set_cons_succ]
                    refine wpAnyH_take (i := 1) (oi := { dst := some 116, op := Op.binOp BinOp.neq 26 (Operand.tmp 115) (Operand.const (Value.int IntKind.i64 0)) 26, type := 4, pos := "law.go:234", after := #[{ on := 0, ground := Ground.data }], guard := none }) (v := ?_) rfl (by kernel_rfl) (by kernel_rfl) (by kernel_rfl) (fun _ _ _ h => h) (Or.inl ⟨by rfl, ?_⟩) (by assumption) ?_
                    rotate_left
                    · (intro w hSw; (try dsimp only at hSw); obtain ⟨⟨s2, s3, s4, s5, s6⟩, _⟩ := hSw; go_simp) <;> with_reducible rfl
                    try simp only [Act.put, List.setIfInBounds_toArray, List.set_cons_zero, List.set_cons_succ]
                    refine wpAnyH_take (i := 2) (oi := { dst := some 117, op := Op.move (Operand.tmp 116), type := 4, pos := "law.go:234", after := #[{ on := 1, ground := Ground.data }], guard := none }) (v := ?_) rfl (by kernel_rfl) (by kernel_rfl) (by kernel_rfl) (fun _ _ _ h => h) (Or.inl ⟨by rfl, ?_⟩) (by assumption) ?_
                    rotate_left
                    · (intro w hSw; (try dsimp only at hSw); obtain ⟨⟨s2, s3, s4, s5, s6⟩, _⟩ := hSw; go_simp) <;> with_reducible rfl
                    try simp only [Act.put, List.setIfInBounds_toArray, List.set_cons_zero, List.set_cons_succ]
                    refine wpAnyH_take (i := 3) (oi := { dst := some 118, op := Op.fieldAddr 38 (Operand.tmp 13) 2, type := 0, pos := "law.go:234", after := #[{ on := 2, ground := Ground.guard }], guard := some (2, false) }) (v := ?_) rfl (by kernel_rfl) (by kernel_rfl) (by kernel_rfl) (fun _ _ _ h => h) (Or.inl ⟨by rfl, ?_⟩) (by assumption) ?_
                    rotate_left
                    · (intro w hSw; (try dsimp only at hSw); obtain ⟨⟨s2, s3, s4, s5, s6⟩, _⟩ := hSw; go_simp) <;> with_reducible rfl
                    try simp only [Act.put, List.setIfInBounds_toArray, List.set_cons_zero, List.set_cons_succ]
                    refine wpAnyH_take (i := 4) (oi := { dst := some 119, op := Op.load 30 (Operand.tmp 118), type := 30, pos := "law.go:234", after := #[{ on := 3, ground := Ground.data }, { on := 2, ground := Ground.guard }], guard := some (2, false) }) (v := ?_) rfl (by kernel_rfl) (by kernel_rfl) (by kernel_rfl) (fun _ _ _ h => h) (Or.inl ⟨by rfl, ?_⟩) (by assumption) ?_
                    rotate_left
                    · (intro w hSw; (try dsimp only at hSw); obtain ⟨⟨s2, s3, s4, s5, s6⟩, _⟩ := hSw; go_simp) <;> with_reducible rfl
                    try simp only [Act.put, List.setIfInBounds_toArray, List.set_cons_zero, List.set_cons_succ]
                    refine wpAnyH_take (i := 5) (oi := { dst := some 120, op := Op.move (Operand.tmp 9), type := 44, pos := "law.go:234", after := #[{ on := 2, ground := Ground.guard }], guard := some (2, false) }) (v := ?_) rfl (by kernel_rfl) (by kernel_rfl) (by kernel_rfl) (fun _ _ _ h => h) (Or.inl ⟨by rfl, ?_⟩) (by assumption) ?_
                    rotate_left
                    · (intro w hSw; (try dsimp only at hSw); obtain ⟨⟨s2, s3, s4, s5, s6⟩, _⟩ := hSw; go_simp) <;> with_reducible rfl
                    try simp only [Act.put, List.setIfInBounds_toArray, List.set_cons_zero, List.set_cons_succ]
                    refine wpAnyH_take (i := 6) (oi := { dst := some 121, op := Op.move (Operand.tmp 12), type := 3, pos := "law.go:234", after := #[{ on := 2, ground := Ground.guard }], guard := some (2, false) }) (v := ?_) rfl (by kernel_rfl) (by kernel_rfl) (by kernel_rfl) (fun _ _ _ h => h) (Or.inl ⟨by rfl, ?_⟩) (by assumption) ?_
                    rotate_left
                    · (intro w hSw; (try dsimp only at hSw); obtain ⟨⟨s2, s3, s4, s5, s6⟩, _⟩ := hSw; go_simp) <;> with_reducible rfl
                    try simp only [Act.put, List.setIfInBounds_toArray, List.set_cons_zero, List.set_cons_succ]
                    refine wpAnyH_take (i := 7) (oi := { dst := some 122, op := Op.indexAddr 44 (Operand.tmp 120) (Operand.tmp 121), type := 0, pos := "law.go:234", after := #[{ on := 5, ground := Ground.data }, { on := 6, ground := Ground.data }, { on := 2, ground := Ground.guard }], guard := some (2, false) }) (v := ?_) rfl (by kernel_rfl) (by kernel_rfl) (by kernel_rfl) (fun _ _ _ h => h) (Or.inl ⟨by rfl, ?_⟩) (by assumption) ?_
                    rotate_left
                    · (intro w hSw; (try dsimp only at hSw); obtain ⟨⟨s2, s3, s4, s5, s6⟩, _⟩ := hSw; go_simp) <;> with_reducible rfl
                    try simp only [Act.put, List.setIfInBounds_toArray, List.set_cons_zero, List.set_cons_succ]
                    refine wpAnyH_take (i := 8) (oi := { dst := some 123, op := Op.load 30 (Operand.tmp 122), type := 30, pos := "law.go:234", after := #[{ on := 7, ground := Ground.data }, { on := 2, ground := Ground.guard }], guard := some (2, false) }) (v := ?_) rfl (by kernel_rfl) (by kernel_rfl) (by kernel_rfl) (fun _ _ _ h => h) (Or.inl ⟨by rfl, ?_⟩) (by assumption) ?_
                    rotate_left
                    · (intro w hSw; (try dsimp only at hSw); obtain ⟨⟨s2, s3, s4, s5, s6⟩, _⟩ := hSw; go_simp) <;> with_reducible rfl
                    try simp only [Act.put, List.setIfInBounds_toArray, List.set_cons_zero, List.set_cons_succ]
                    refine wpAnyH_ready (rs := [9]) (by kernel_rfl) (by simp) ?_
                    refine AllReadyH.cons (o := { dst := some 124, op := Op.call { callee := Callee.value (Operand.func 16), args := #[Operand.tmp 119, Operand.tmp 123], argTypes := #[30, 30] }, type := 4, pos := "law.go:234", after := #[{ on := 4, ground := Ground.data }, { on := 8, ground := Ground.data }, { on := 2, ground := Ground.chain }, { on := 2, ground := Ground.guard }], guard := some (2, false) }) rfl (fun K hK => ?_) AllReadyH.nil
                    go_simp
                    refine Calls.mono (eqBytes_any _ _ x'.bs x.bs _ (HIN.out _ hHeld.2).2.1 (HIN.out _ hHeld.2).2.2.1) ?_
                    rw [decide_eq_true HXX.out.1]
                    rintro _ w6 ⟨rfl, n6, e6⟩
                    have b6 : Below w5.heap.size w5 w6 := by rw [e6]; exact below_drewN hHeld.2 n6
                    clear e6 hHeld
                    refine hK.out _ _ ⟨(HIN.out _ b6).1, b6⟩ (fun hHeld => ?_)
                    clear hK K
                    refine wpAnyH_take (i := 10) (oi := { dst := some 125, op := Op.unOp UnOp.not 4 (Operand.tmp 124), type := 4, pos := "law.go:234", after := #[{ on := 9, ground := Ground.data }, { on := 2, ground := Ground.guard }], guard := some (2, false) }) (v := ?_) rfl (by kernel_rfl) (by kernel_rfl) (by kernel_rfl) (fun _ _ _ h => h) (Or.inl ⟨by rfl, ?_⟩) (by assumption) ?_
                    rotate_left
                    · (intro w hSw; (try dsimp only at hSw); obtain ⟨⟨s2, s3, s4, s5, s6⟩, _⟩ := hSw; go_simp) <;> with_reducible rfl
                    try simp only [Act.put, List.setIfInBounds_toArray, List.set_cons_zero, List.set_cons_succ]
                    refine wpAnyH_take (i := 11) (oi := { dst := some 126, op := Op.pick (Operand.tmp 117) (Operand.const (Value.bool true)) (Operand.tmp 125), type := 4, pos := "law.go:234", after := #[{ on := 2, ground := Ground.data }, { on := 10, ground := Ground.data }], guard := none }) (v := ?_) rfl (by kernel_rfl) (by kernel_rfl) (by kernel_rfl) (fun _ _ _ h => h) (Or.inl ⟨by rfl, ?_⟩) (by assumption) ?_
                    rotate_left
                    · (intro w hSw; (try dsimp only at hSw); obtain ⟨⟨s2, s3, s4, s5, s6⟩, _⟩ := hSw; go_simp) <;> with_reducible rfl
                    try simp only [Act.put, List.setIfInBounds_toArray, List.set_cons_zero, List.set_cons_succ]
                    refine wpAnyH_take (i := 12) (oi := { dst := some 127, op := Op.move (Operand.tmp 126), type := 4, pos := "law.go:234", after := #[{ on := 11, ground := Ground.data }, { on := 9, ground := Ground.chain }], guard := none }) (v := ?_) rfl (by kernel_rfl) (by kernel_rfl) (by kernel_rfl) (fun _ _ _ h => h) (Or.inl ⟨by rfl, ?_⟩) (by assumption) ?_
                    rotate_left
                    · (intro w hSw; (try dsimp only at hSw); obtain ⟨⟨s2, s3, s4, s5, s6⟩, _⟩ := hSw; go_simp) <;> with_reducible rfl
                    try simp only [Act.put, List.setIfInBounds_toArray, List.set_cons_zero, List.set_cons_succ]
                    refine wpAnyH_take (i := 13) (oi := { dst := some 128, op := Op.fieldAddr 38 (Operand.tmp 13) 3, type := 0, pos := "law.go:234", after := #[{ on := 12, ground := Ground.guard }], guard := some (12, false) }) (v := ?_) rfl (by kernel_rfl) (by kernel_rfl) (by kernel_rfl) (fun _ _ _ h => h) (Or.inl ⟨by rfl, ?_⟩) (by assumption) ?_
                    rotate_left
                    · (intro w hSw; (try dsimp only at hSw); obtain ⟨⟨s2, s3, s4, s5, s6⟩, _⟩ := hSw; go_simp) <;> with_reducible rfl
                    try simp only [Act.put, List.setIfInBounds_toArray, List.set_cons_zero, List.set_cons_succ]
                    refine wpAnyH_take (i := 14) (oi := { dst := some 129, op := Op.load 4 (Operand.tmp 128), type := 4, pos := "law.go:234", after := #[{ on := 13, ground := Ground.data }, { on := 12, ground := Ground.guard }], guard := some (12, false) }) (v := ?_) rfl (by kernel_rfl) (by kernel_rfl) (by kernel_rfl) (fun _ _ _ h => h) (Or.inl ⟨by rfl, ?_⟩) (by assumption) ?_
                    rotate_left
                    · (intro w hSw; (try dsimp only at hSw); obtain ⟨⟨s2, s3, s4, s5, s6⟩, _⟩ := hSw; go_simp) <;> with_reducible rfl
                    try simp only [Act.put, List.setIfInBounds_toArray, List.set_cons_zero, List.set_cons_succ]
                    refine wpAnyH_take (i := 15) (oi := { dst := some 130, op := Op.pick (Operand.tmp 127) (Operand.const (Value.bool true)) (Operand.tmp 129), type := 4, pos := "law.go:234", after := #[{ on := 12, ground := Ground.data }, { on := 14, ground := Ground.data }], guard := none }) (v := ?_) rfl (by kernel_rfl) (by kernel_rfl) (by kernel_rfl) (fun _ _ _ h => h) (Or.inl ⟨by rfl, ?_⟩) (by assumption) ?_
                    rotate_left
                    · (intro w hSw; (try dsimp only at hSw); obtain ⟨⟨s2, s3, s4, s5, s6⟩, _⟩ := hSw; go_simp) <;> with_reducible rfl
                    try simp only [Act.put, List.setIfInBounds_toArray, List.set_cons_zero, List.set_cons_succ]
                    refine wpAnyH_take (i := 16) (oi := { dst := some 131, op := Op.move (Operand.tmp 130), type := 4, pos := "law.go:234", after := #[{ on := 15, ground := Ground.data }, { on := 12, ground := Ground.chain }], guard := none }) (v := ?_) rfl (by kernel_rfl) (by kernel_rfl) (by kernel_rfl) (fun _ _ _ h => h) (Or.inl ⟨by rfl, ?_⟩) (by assumption) ?_
                    rotate_left
                    · (intro w hSw; (try dsimp only at hSw); obtain ⟨⟨s2, s3, s4, s5, s6⟩, _⟩ := hSw; go_simp) <;> with_reducible rfl
                    try simp only [Act.put, List.setIfInBounds_toArray, List.set_cons_zero, List.set_cons_succ]
                    refine wpAnyH_take (i := 17) (oi := { dst := some 132, op := Op.move (Operand.tmp 7), type := 25, pos := "law.go:234", after := #[{ on := 16, ground := Ground.guard }], guard := some (16, false) }) (v := ?_) rfl (by kernel_rfl) (by kernel_rfl) (by kernel_rfl) (fun _ _ _ h => h) (Or.inl ⟨by rfl, ?_⟩) (by assumption) ?_
                    rotate_left
                    · (intro w hSw; (try dsimp only at hSw); obtain ⟨⟨s2, s3, s4, s5, s6⟩, _⟩ := hSw; go_simp) <;> with_reducible rfl
                    try simp only [Act.put, List.setIfInBounds_toArray, List.set_cons_zero, List.set_cons_succ]
                    refine wpAnyH_take (i := 19) (oi := { dst := some 134, op := Op.move (Operand.tmp 9), type := 44, pos := "law.go:234", after := #[{ on := 16, ground := Ground.guard }], guard := some (16, false) }) (v := ?_) rfl (by kernel_rfl) (by kernel_rfl) (by kernel_rfl) (fun _ _ _ h => h) (Or.inl ⟨by rfl, ?_⟩) (by assumption) ?_
                    rotate_left
                    · (intro w hSw; (try dsimp only at hSw); obtain ⟨⟨s2, s3, s4, s5, s6⟩, _⟩ := hSw; go_simp) <;> with_reducible rfl
                    try simp only [Act.put, List.setIfInBounds_toArray, List.set_cons_zero, List.set_cons_succ]
                    refine wpAnyH_take (i := 20) (oi := { dst := some 135, op := Op.call { callee := Callee.builtin Builtin.len, args := #[Operand.tmp 134], argTypes := #[44] }, type := 3, pos := "law.go:234", after := #[{ on := 19, ground := Ground.data }, { on := 16, ground := Ground.guard }], guard := some (16, false) }) (v := ?_) rfl (by kernel_rfl) (by kernel_rfl) (by kernel_rfl) (fun _ _ _ h => h) (Or.inl ⟨by rfl, ?_⟩) (by assumption) ?_
                    rotate_left
                    · (intro w hSw; (try dsimp only at hSw); obtain ⟨⟨s2, s3, s4, s5, s6⟩, _⟩ := hSw; go_simp) <;> with_reducible rfl
                    try simp only [Act.put, List.setIfInBounds_toArray, List.set_cons_zero, List.set_cons_succ]
                    refine wpAnyH_take (i := 21) (oi := { dst := some 136, op := Op.binOp BinOp.sub 3 (Operand.tmp 135) (Operand.const (Value.int IntKind.i64 1)) 3, type := 3, pos := "law.go:234", after := #[{ on := 20, ground := Ground.data }, { on := 16, ground := Ground.guard }], guard := some (16, false) }) (v := ?_) rfl (by kernel_rfl) (by kernel_rfl) (by kernel_rfl) (fun _ _ _ h => h) (Or.inl ⟨by rfl, ?_⟩) (by assumption) ?_
                    rotate_left
                    · (intro w hSw; (try dsimp only at hSw); obtain ⟨⟨s2, s3, s4, s5, s6⟩, _⟩ := hSw; go_simp) <;> with_reducible rfl
                    try simp only [Act.put, List.setIfInBounds_toArray, List.set_cons_zero, List.set_cons_succ]
                    refine wpAnyH_ready (rs := [18]) (by kernel_rfl) (by simp) ?_
                    refine AllReadyH.cons (o := { dst := some 133, op := Op.call { callee := Callee.value (Operand.func 15), args := #[Operand.tmp 132], argTypes := #[25] }, type := 3, pos := "law.go:234", after := #[{ on := 17, ground := Ground.data }, { on := 16, ground := Ground.chain }, { on := 16, ground := Ground.guard }], guard := some (16, false) }) rfl (fun K hK => ?_) AllReadyH.nil
                    go_simp
                    refine Calls.mono (HIN.out _ hHeld.2).2.2.2 ?_
                    rintro _ w7 ⟨rfl, rfl⟩
                    refine hK.out _ _ hHeld (fun hHeld => ?_)
                    clear hK K
                    refine wpAnyH_take (i := 22) (oi := { dst := some 137, op := Op.binOp BinOp.neq 3 (Operand.tmp 133) (Operand.tmp 136) 3, type := 4, pos := "law.go:234", after := #[{ on := 18, ground := Ground.data }, { on := 21, ground := Ground.data }, { on := 16, ground := Ground.guard }], guard := some (16, false) }) (v := ?_) rfl (by kernel_rfl) (by kernel_rfl) (by kernel_rfl) (fun _ _ _ h => h) (Or.inl ⟨by rfl, ?_⟩) (by assumption) ?_
                    rotate_left
                    · (intro w hSw; (try dsimp only at hSw); obtain ⟨⟨s2, s3, s4, s5, s6⟩, _⟩ := hSw; go_simp) <;> with_reducible rfl
                    try simp only [Act.put, List.setIfInBounds_toArray, List.set_cons_zero, List.set_cons_succ]
                    refine wpAnyH_take (i := 23) (oi := { dst := some 138, op := Op.pick (Operand.tmp 131) (Operand.const (Value.bool true)) (Operand.tmp 137), type := 4, pos := "law.go:234", after := #[{ on := 16, ground := Ground.data }, { on := 22, ground := Ground.data }], guard := none }) (v := ?_) rfl (by kernel_rfl) (by kernel_rfl) (by kernel_rfl) (fun _ _ _ h => h) (Or.inl ⟨by rfl, ?_⟩) (by assumption) ?_
                    rotate_left
                    · (intro w hSw; (try dsimp only at hSw); obtain ⟨⟨s2, s3, s4, s5, s6⟩, _⟩ := hSw; go_simp) <;> with_reducible rfl
                    try simp only [Act.put, List.setIfInBounds_toArray, List.set_cons_zero, List.set_cons_succ]
                    refine wpAnyH_done (by kernel_rfl) ?_ _
                    have H7 : Hid (Below w5.heap.size w5 w7) := hHeld.2
                    clear hHeld S0
                    go_wp2_with fail
                    go_loopw [15, 16] (fun vr vj wq => ∃ (j : Nat) (R : List BbT) (ra : Option Addr) (rc : Nat), j ≤ L2.length ∧ vj = .int .i64 (j : Int) ∧ vr = .slice ra R.length rc ∧ Hid (R = restL A B j ∧ Below w7.heap.size w7 wq ∧ wq.ownsRow w7.heap.size 30 1 (.slice ra R.length rc) R.length (R.map BbT.v))) (fun _ vj _ => L2.length - (intOf vj).toNat)
                    case atStart => exact ⟨0, [], none, 0, by omega, rfl, rfl, (restL_zero A B).symm, Below.refl _ _, World.ownsRow_nil _ _ _ _⟩
                    case round =>
                      obtain ⟨j, R, ra, rc, hj, rfl, rfl, HR⟩ := hrel
                      rename World => wq
                      have HJQ : Hid (OnI w wq b (.slice (some ⟨lg, 0, none⟩) L2.length sc2) L2 (A ++ B)) := HJ5.out.1.1.below (H7.out.trans (HR.out.2.1.mono H7.out.size))
                      by_cases hjl : j < L2.length
                      · have hd3 : decide ((j : Int) < (L2.length : Int)) = true := decide_eq_true (by omega)
                        obtain ⟨o', ho'⟩ : ∃ o', L2[j]? = some o' := ⟨_, List.getElem?_eq_getElem hjl⟩
                        obtain ⟨g, e, hz, q0⟩ := row1_at HJQ.out.row ho'
                        simp only [Option.some.injEq, Addr.mk.injEq, and_true] at e
                        subst e
                        by_cases hjk : j = 0
                        · have dq : ((j : Int) == 0) = true := by simp; omega
                          have HR2 : Hid (R = restL A B (j + 1)) := by
                            show R = _
                            rw [HR.out.1, hjk, ← HGD.out.2.2, restL_skip]
                          go_wp2_with fail
                          go_roundw
                          case rel => exact ⟨j + 1, R, ra, rc, by omega, by simp <;> omega, rfl, HR2.out, HR.out.2.1, HR.out.2.2⟩
                          case measure => simp [intOf]; omega
                        · have dq : ((j : Int) == 0) = false := by simp; omega
                          have HR2 : Hid (R ++ [o'] = restL A B (j + 1)) := by
                            show _ = _
                            rw [HR.out.1]
                            exact (restL_next (x := x) (by rw [← HGD.out.2.1]; exact ho') (by rw [HGD.out.2.2]; exact hjk)).symm
                          have hRl : R.length ≤ j := by rw [HR.out.1]; exact restL_len A B j
                          have bq := oneL wq (.cells #[.slice o'.ba o'.bs.length o'.bc] 30)
                          obtain ⟨sv8, w8, hr, ho8, hk8⟩ := app_bb (x := o') (rowKl HR.out.2.2 (Below.kept bq) (fun g hg => by have := (HR.out.2.2.lt g hg).2; omega)) (heap_alloc_new wq (.cells #[.slice o'.ba o'.bs.length o'.bc] 30)) (by omega) (Nat.le_trans HR.out.2.1.size bq.size)
                          obtain ⟨a8, c8, rfl⟩ := rowSl ho8
                          have HR8 : Hid (Below w7.heap.size w7 w8 ∧ w8.ownsRow w7.heap.size 30 1 (.slice a8 (R ++ [o']).length c8) (R ++ [o']).length ((R ++ [o']).map BbT.v)) := by
                            refine ⟨(HR.out.2.1.trans (bq.mono HR.out.2.1.size)).trans (hk8.below (Nat.le_trans HR.out.2.1.size bq.size) (fun k e => (HR.out.2.2.lt k e).1)), ho8⟩
                          clear bq ho8 hk8 ho'
                          go_wp2_with (at_builtin; refine wpList_appL _ rfl _ _ 44 rfl _ _ rfl rfl (hr _) ?_)
                          clear hr
                          go_roundw
                          case rel => exact ⟨j + 1, R ++ [o'], a8, c8, by omega, by simp, by first | rfl | simp, HR2.out, HR8.out.1, HR8.out.2⟩
                          case measure => simp [intOf]; omega
                      · have hd3 : decide ((j : Int) < (L2.length : Int)) = false := decide_eq_false (by omega)
                        obtain rfl : R = A ++ B := by
                          rw [HR.out.1, show j = L2.length by omega, HGD.out.2.1, restL_all]
                        have HJN : Hid (OnI w wq b (.slice ra (A ++ B).length rc) (A ++ B) (A ++ B) ∧ ∀ t ∈ A ++ B, GoodBb w t) := by
                          refine ⟨⟨HJQ.out.bel, HJQ.out.net, row_lowerl HR.out.2.2 (Nat.le_trans HJ5.out.1.1.bel.size H7.out.size)⟩, fun t ht => HGD.out.1 t ?_⟩
                          rw [HGD.out.2.1]
                          rcases List.mem_append.1 ht with ht | ht
                          · exact List.mem_append_left _ ht
                          · exact List.mem_append_right _ (List.mem_cons_of_mem _ ht)
                        clear HJQ HR
                        go_wp2_with fail
                        go_roundw
                        case rel => exact ⟨i2 + 1, A ++ B, ra, rc, by first | rfl | simp, by simp, by have := HN.out; simp; omega, HJN.out⟩
                        case measure => (have := HN.out; simp [lenS]; omega)
                · have hd1 : decide ((i2 : Int) < (ps.length : Int)) = false := decide_eq_false (by omega)
                  have hkl : 0 < L2.length := hL
                  go_wp2_with fail
                  clear hd1 h1
                  obtain ⟨A, x, B, hLL, hA⟩ := split_at (l := L2) (p := 0) hkl
                  obtain ⟨nv, ms, hn1, hn2, hn4⟩ := HJ.out.1.net
                  rw [hLL] at hn2
                  obtain ⟨A', x', B', hms, hA', hxx, hab⟩ := hn2.split
                  have hnl := hn2.len
                  subst hms
                  have HN : Hid (L2.length = A.length + B.length + 1) := by show L2.length = _; rw [hLL]; simp; omega
                  obtain ⟨lg, rfl⟩ : ∃ lg, sa2 = some ⟨lg, 0, none⟩ := by
                    obtain ⟨g, e, _⟩ := row1_at HJ.out.1.row (j := 0) (o := x) (by rw [hLL, ← hA, List.getElem?_append_right (Nat.le_refl _), Nat.sub_self]; rfl)
                    exact ⟨g, e⟩
                  have HD : Hid (Calls Try.prog 13 #[.pointer (some ⟨b, 0, none⟩), .int .i64 0] wr fun e w' => e = .returned (.tuple #[.agg x'.cs.toArray, .int .i64 0]) ∧ ∃ v', Nt w' b 3 v' (A' ++ B') ∧ Kept wr w' (fun k => k = b ∨ nv.ownBlock = some k) ∧ v'.ownBlock = nv.ownBlock ∧ MsOk w' x') := by
                    have := take_yes hn1 (by rw [hnl, List.length_append, List.length_cons]; have := HN.out; omega)
                    rw [hA', hA] at this
                    exact this
                  have HTK : Hid (∀ w' v', Nt w' b 3 v' (A' ++ B') → Kept wr w' (fun k => k = b ∨ nv.ownBlock = some k) → v'.ownBlock = nv.ownBlock → OnI w w' b (.slice (some ⟨lg, 0, none⟩) L2.length sc2) L2 (A ++ B)) := fun w' v' e1 e2 e3 => HJ.out.1.take hn1 hn4 hab e1 e2 e3
                  have HGD : Hid ((∀ t ∈ L2, GoodBb w t) ∧ L2 = A ++ x :: B ∧ A.length = 0) := ⟨HJ.out.2, hLL, hA⟩
                  have HXX : Hid (x'.bs = x.bs ∧ x'.sp = false) := hxx
                  have HLAB : Hid ((A' ++ B').length = (A ++ B).length) := hab.len
                  clear hn1 hn2 hn4 hnl hab HJ hLL hA hA' hxx
                  refine Calls.mono HD.out ?_
                  rintro _ w4 ⟨rfl, nv', g1, g2, g3, g4⟩
                  obtain ⟨w5, hw5⟩ : ∃ w5, w5 = w4.alloc (.cells x'.cs.toArray 38) := ⟨_, rfl⟩
                  have HJ5 : Hid ((OnI w w5 b (.slice (some ⟨lg, 0, none⟩) L2.length sc2) L2 (A ++ B) ∧ w5.heap[w4.heap.size]? = some (.cells x'.cs.toArray 38 (0, 0))) ∧ Sees w5 x'.v x'.bs) := by
                    rw [hw5]
                    exact ⟨⟨(HTK.out w4 nv' g1 g2 g3).below (oneL w4 _), heap_alloc_new w4 _⟩, g4.sees.below (oneL w4 _) (Nat.le_refl _)⟩
                  clear g1 g2 g3 g4 HD HTK
                  go_upto_region 25 with fail
                  rw [← hw5]
                  clear hw5
                  generalize w4.heap.size = mb at *
                  have HIN : Hid (∀ W, Below w5.heap.size w5 W → (W.cell? ⟨mb, 2, none⟩ = some x'.v ∧ W.cell? ⟨mb, 3, none⟩ = some (.bool false) ∧ W.cell? ⟨lg, 0, none⟩ = some (.slice x.ba x.bs.length x.bc) ∧ mb < W.heap.size ∧ lg < W.heap.size) ∧ Sees W x'.v x'.bs ∧ Sees W (.slice x.ba x.bs.length x.bc) x.bs ∧ Calls Try.prog 15 #[.pointer (some ⟨b, 0, none⟩)] W fun e w' => e = .returned (.int .i64 ((L2.length : Int) - 1)) ∧ w' = W) := fun W hW => by
                    have hm := boxL HJ5.out.1.2 hW
                    have hJW := HJ5.out.1.1.below hW
                    have hxk : L2[0]? = some x := by rw [HGD.out.2.1, ← HGD.out.2.2, List.getElem?_append_right (Nat.le_refl _), Nat.sub_self]; rfl
                    obtain ⟨g, e, e1, e2⟩ := row1_at hJW.row hxk
                    simp only [Option.some.injEq, Addr.mk.injEq, and_true] at e
                    subst e
                    obtain ⟨v2, ms2, n1, n2, _⟩ := hJW.net
                    have hgx := (HGD.out.1 x (List.mem_of_getElem? hxk)).se
                    refine ⟨⟨by rw [cell_of_row _ _ _ _ _ _ hm]; rfl, by rw [cell_of_row _ _ _ _ _ _ hm, ← HXX.out.2]; rfl, e2, lt_of_block hm, e1⟩, HJ5.out.2.below hW (Nat.le_refl _), hgx.below hJW.bel (Nat.le_refl _), ?_⟩
                    have := len_anyL n1
                    rw [n2.len] at this
                    rw [show ((L2.length : Int) - 1) = (((A ++ B).length : Nat) : Int) by have := HN.out; rw [List.length_append]; omega]
                    exact this
                  have S0 : (w5.drew.cell? ⟨mb, 2, none⟩ = some x'.v ∧ w5.drew.cell? ⟨mb, 3, none⟩ = some (.bool false) ∧ w5.drew.cell? ⟨lg, 0, none⟩ = some (.slice x.ba x.bs.length x.bc) ∧ mb < w5.drew.heap.size ∧ lg < w5.drew.heap.size) ∧ Below w5.heap.size w5 w5.drew := ⟨(HIN.out _ (below_drewN (Below.refl _ _) 1)).1, below_drewN (Below.refl _ _) 1⟩
                  have ew : IntKind.i64.wrap ((L2.length : Int) - 1) = (L2.length : Int) - 1 := by rw [IntKind.wrap_i64]; omega
                  refine wp_region_held_drew (S := (fun W => (W.cell? ⟨mb, 2, none⟩ = some x'.v ∧ W.cell? ⟨mb, 3, none⟩ = some (.bool false) ∧ W.cell? ⟨lg, 0, none⟩ = some (.slice x.ba x.bs.length x.bc) ∧ mb < W.heap.size ∧ lg < W.heap.size) ∧ Below w5.heap.size w5 W)) (by kernel_rfl) ?_ (fun hHeld => ?_)
                  · exact S0
                  refine wpAnyH_take (i := 0) (oi := { dst := some 115, op := Op.move (Operand.tmp 14), type := 26, pos := "law.go:234", after := #[], guard := none }) (v := ?_) rfl (by kernel_rfl) (by kernel_rfl) (by kernel_rfl) (fun _ _ _ h => h) (Or.inl ⟨by rfl, ?_⟩) (by assumption) ?_
                  rotate_left
                  · (intro w hSw; (try dsimp only at hSw); obtain ⟨⟨s2, s3, s4, s5, s6⟩, _⟩ := hSw; go_simp) <;> with_reducible rfl
                  try simp only [Act.put, List.setIfInBounds_toArray, List.set_cons_zero, List.set_cons_succ]
                  refine wpAnyH_take (i := 1) (oi := { dst := some 116, op := Op.binOp BinOp.neq 26 (Operand.tmp 115) (Operand.const (Value.int IntKind.i64 0)) 26, type := 4, pos := "law.go:234", after := #[{ on := 0, ground := Ground.data }], guard := none }) (v := ?_) rfl (by kernel_rfl) (by kernel_rfl) (by kernel_rfl) (fun _ _ _ h => h) (Or.inl ⟨by rfl, ?_⟩) (by assumption) ?_
                  rotate_left
                  · (intro w hSw; (try dsimp only at hSw); obtain ⟨⟨s2, s3, s4, s5, s6⟩, _⟩ := hSw; go_simp) <;> with_reducible rfl
                  try simp only [Act.put, List.setIfInBounds_toArray, List.set_cons_zero, List.set_cons_succ]
                  refine wpAnyH_take (i := 2) (oi := { dst := some 117, op := Op.move (Operand.tmp 116), type := 4, pos := "law.go:234", after := #[{ on := 1, ground := Ground.data }], guard := none }) (v := ?_) rfl (by kernel_rfl) (by kernel_rfl) (by kernel_rfl) (fun _ _ _ h => h) (Or.inl ⟨by rfl, ?_⟩) (by assumption) ?_
                  rotate_left
                  · (intro w hSw; (try dsimp only at hSw); obtain ⟨⟨s2, s3, s4, s5, s6⟩, _⟩ := hSw; go_simp) <;> with_reducible rfl
                  try simp only [Act.put, List.setIfInBounds_toArray, List.set_cons_zero, List.set_cons_succ]
                  refine wpAnyH_take (i := 3) (oi := { dst := some 118, op := Op.fieldAddr 38 (Operand.tmp 13) 2, type := 0, pos := "law.go:234", after := #[{ on := 2, ground := Ground.guard }], guard := some (2, false) }) (v := ?_) rfl (by kernel_rfl) (by kernel_rfl) (by kernel_rfl) (fun _ _ _ h => h) (Or.inl ⟨by rfl, ?_⟩) (by assumption) ?_
                  rotate_left
                  · (intro w hSw; (try dsimp only at hSw); obtain ⟨⟨s2, s3, s4, s5, s6⟩, _⟩ := hSw; go_simp) <;> with_reducible rfl
                  try simp only [Act.put, List.setIfInBounds_toArray, List.set_cons_zero, List.set_cons_succ]
                  refine wpAnyH_take (i := 4) (oi := { dst := some 119, op := Op.load 30 (Operand.tmp 118), type := 30, pos := "law.go:234", after := #[{ on := 3, ground := Ground.data }, { on := 2, ground := Ground.guard }], guard := some (2, false) }) (v := ?_) rfl (by kernel_rfl) (by kernel_rfl) (by kernel_rfl) (fun _ _ _ h => h) (Or.inl ⟨by rfl, ?_⟩) (by assumption) ?_
                  rotate_left
                  · (intro w hSw; (try dsimp only at hSw); obtain ⟨⟨s2, s3, s4, s5, s6⟩, _⟩ := hSw; go_simp) <;> with_reducible rfl
                  try simp only [Act.put, List.setIfInBounds_toArray, List.set_cons_zero, List.set_cons_succ]
                  refine wpAnyH_take (i := 5) (oi := { dst := some 120, op := Op.move (Operand.tmp 9), type := 44, pos := "law.go:234", after := #[{ on := 2, ground := Ground.guard }], guard := some (2, false) }) (v := ?_) rfl (by kernel_rfl) (by kernel_rfl) (by kernel_rfl) (fun _ _ _ h => h) (Or.inl ⟨by rfl, ?_⟩) (by assumption) ?_
                  rotate_left
                  · (intro w hSw; (try dsimp only at hSw); obtain ⟨⟨s2, s3, s4, s5, s6⟩, _⟩ := hSw; go_simp) <;> with_reducible rfl
                  try simp only [Act.put, List.setIfInBounds_toArray, List.set_cons_zero, List.set_cons_succ]
                  refine wpAnyH_take (i := 6) (oi := { dst := some 121, op := Op.move (Operand.tmp 12), type := 3, pos := "law.go:234", after := #[{ on := 2, ground := Ground.guard }], guard := some (2, false) }) (v := ?_) rfl (by kernel_rfl) (by kernel_rfl) (by kernel_rfl) (fun _ _ _ h => h) (Or.inl ⟨by rfl, ?_⟩) (by assumption) ?_
                  rotate_left
                  · (intro w hSw; (try dsimp only at hSw); obtain ⟨⟨s2, s3, s4, s5, s6⟩, _⟩ := hSw; go_simp) <;> with_reducible rfl
                  try simp only [Act.put, List.setIfInBounds_toArray, List.set_cons_zero, List.set_cons_succ]
                  refine wpAnyH_take (i := 7) (oi := { dst := some 122, op := Op.indexAddr 44 (Operand.tmp 120) (Operand.tmp 121), type := 0, pos := "law.go:234", after := #[{ on := 5, ground := Ground.data }, { on := 6, ground := Ground.data }, { on := 2, ground := Ground.guard }], guard := some (2, false) }) (v := ?_) rfl (by kernel_rfl) (by kernel_rfl) (by kernel_rfl) (fun _ _ _ h => h) (Or.inl ⟨by rfl, ?_⟩) (by assumption) ?_
                  rotate_left
                  · (intro w hSw; (try dsimp only at hSw); obtain ⟨⟨s2, s3, s4, s5, s6⟩, _⟩ := hSw; go_simp) <;> with_reducible rfl
                  try simp only [Act.put, List.setIfInBounds_toArray, List.set_cons_zero, List.set_cons_succ]
                  refine wpAnyH_take (i := 8) (oi := { dst := some 123, op := Op.load 30 (Operand.tmp 122), type := 30, pos := "law.go:234", after := #[{ on := 7, ground := Ground.data }, { on := 2, ground := Ground.guard }], guard := some (2, false) }) (v := ?_) rfl (by kernel_rfl) (by kernel_rfl) (by kernel_rfl) (fun _ _ _ h => h) (Or.inl ⟨by rfl, ?_⟩) (by assumption) ?_
                  rotate_left
                  · (intro w hSw; (try dsimp only at hSw); obtain ⟨⟨s2, s3, s4, s5, s6⟩, _⟩ := hSw; go_simp) <;> with_reducible rfl
                  try simp only [Act.put, List.setIfInBounds_toArray, List.set_cons_zero, List.set_cons_succ]
                  refine wpAnyH_ready (rs := [9]) (by kernel_rfl) (by simp) ?_
                  refine AllReadyH.cons (o := { dst := some 124, op := Op.call { callee := Callee.value (Operand.func 16), args := #[Operand.tmp 119, Operand.tmp 123], argTypes := #[30, 30] }, type := 4, pos := "law.go:234", after := #[{ on := 4, ground := Ground.data }, { on := 8, ground := Ground.data }, { on := 2, ground := Ground.chain }, { on := 2, ground := Ground.guard }], guard := some (2, false) }) rfl (fun K hK => ?_) AllReadyH.nil
                  go_simp
                  refine Calls.mono (eqBytes_any _ _ x'.bs x.bs _ (HIN.out _ hHeld.2).2.1 (HIN.out _ hHeld.2).2.2.1) ?_
                  rw [decide_eq_true HXX.out.1]
                  rintro _ w6 ⟨rfl, n6, e6⟩
                  have b6 : Below w5.heap.size w5 w6 := by rw [e6]; exact below_drewN hHeld.2 n6
                  clear e6 hHeld
                  refine hK.out _ _ ⟨(HIN.out _ b6).1, b6⟩ (fun hHeld => ?_)
                  clear hK K
                  refine wpAnyH_take (i := 10) (oi := { dst := some 125, op := Op.unOp UnOp.not 4 (Operand.tmp 124), type := 4, pos := "law.go:234", after := #[{ on := 9, ground := Ground.data }, { on := 2, ground := Ground.guard }], guard := some (2, false) }) (v := ?_) rfl (by kernel_rfl) (by kernel_rfl) (by kernel_rfl) (fun _ _ _ h => h) (Or.inl ⟨by rfl, ?_⟩) (by assumption) ?_
                  rotate_left
                  · (intro w hSw; (try dsimp only at hSw); obtain ⟨⟨s2, s3, s4, s5, s6⟩, _⟩ := hSw; go_simp) <;> with_reducible rfl
                  try simp only [Act.put, List.setIfInBounds_toArray, List.set_cons_zero, List.set_cons_succ]
                  refine wpAnyH_take (i := 11) (oi := { dst := some 126, op := Op.pick (Operand.tmp 117) (Operand.const (Value.bool true)) (Operand.tmp 125), type := 4, pos := "law.go:234", after := #[{ on := 2, ground := Ground.data }, { on := 10, ground := Ground.data }], guard := none }) (v := ?_) rfl (by kernel_rfl) (by kernel_rfl) (by kernel_rfl) (fun _ _ _ h => h) (Or.inl ⟨by rfl, ?_⟩) (by assumption) ?_
                  rotate_left
                  · (intro w hSw; (try dsimp only at hSw); obtain ⟨⟨s2, s3, s4, s5, s6⟩, _⟩ := hSw; go_simp) <;> with_reducible rfl
                  try simp only [Act.put, List.setIfInBounds_toArray, List.set_cons_zero, List.set_cons_succ]
                  refine wpAnyH_take (i := 12) (oi := { dst := some 127, op := Op.move (Operand.tmp 126), type := 4, pos := "law.go:234", after := #[{ on := 11, ground := Ground.data }, { on := 9, ground := Ground.chain }], guard := none }) (v := ?_) rfl (by kernel_rfl) (by kernel_rfl) (by kernel_rfl) (fun _ _ _ h => h) (Or.inl ⟨by rfl, ?_⟩) (by assumption) ?_
                  rotate_left
                  · (intro w hSw; (try dsimp only at hSw); obtain ⟨⟨s2, s3, s4, s5, s6⟩, _⟩ := hSw; go_simp) <;> with_reducible rfl
                  try simp only [Act.put, List.setIfInBounds_toArray, List.set_cons_zero, List.set_cons_succ]
                  refine wpAnyH_take (i := 13) (oi := { dst := some 128, op := Op.fieldAddr 38 (Operand.tmp 13) 3, type := 0, pos := "law.go:234", after := #[{ on := 12, ground := Ground.guard }], guard := some (12, false) }) (v := ?_) rfl (by kernel_rfl) (by kernel_rfl) (by kernel_rfl) (fun _ _ _ h => h) (Or.inl ⟨by rfl, ?_⟩) (by assumption) ?_
                  rotate_left
                  · (intro w hSw; (try dsimp only at hSw); obtain ⟨⟨s2, s3, s4, s5, s6⟩, _⟩ := hSw; go_simp) <;> with_reducible rfl
                  try simp only [Act.put, List.setIfInBounds_toArray, List.set_cons_zero, List.set_cons_succ]
                  refine wpAnyH_take (i := 14) (oi := { dst := some 129, op := Op.load 4 (Operand.tmp 128), type := 4, pos := "law.go:234", after := #[{ on := 13, ground := Ground.data }, { on := 12, ground := Ground.guard }], guard := some (12, false) }) (v := ?_) rfl (by kernel_rfl) (by kernel_rfl) (by kernel_rfl) (fun _ _ _ h => h) (Or.inl ⟨by rfl, ?_⟩) (by assumption) ?_
                  rotate_left
                  · (intro w hSw; (try dsimp only at hSw); obtain ⟨⟨s2, s3, s4, s5, s6⟩, _⟩ := hSw; go_simp) <;> with_reducible rfl
                  try simp only [Act.put, List.setIfInBounds_toArray, List.set_cons_zero, List.set_cons_succ]
                  refine wpAnyH_take (i := 15) (oi := { dst := some 130, op := Op.pick (Operand.tmp 127) (Operand.const (Value.bool true)) (Operand.tmp 129), type := 4, pos := "law.go:234", after := #[{ on := 12, ground := Ground.data }, { on := 14, ground := Ground.data }], guard := none }) (v := ?_) rfl (by kernel_rfl) (by kernel_rfl) (by kernel_rfl) (fun _ _ _ h => h) (Or.inl ⟨by rfl, ?_⟩) (by assumption) ?_
                  rotate_left
                  · (intro w hSw; (try dsimp only at hSw); obtain ⟨⟨s2, s3, s4, s5, s6⟩, _⟩ := hSw; go_simp) <;> with_reducible rfl
                  try simp only [Act.put, List.setIfInBounds_toArray, List.set_cons_zero, List.set_cons_succ]
                  refine wpAnyH_take (i := 16) (oi := { dst := some 131, op := Op.move (Operand.tmp 130), type := 4, pos := "law.go:234", after := #[{ on := 15, ground := Ground.data }, { on := 12, ground := Ground.chain }], guard := none }) (v := ?_) rfl (by kernel_rfl) (by kernel_rfl) (by kernel_rfl) (fun _ _ _ h => h) (Or.inl ⟨by rfl, ?_⟩) (by assumption) ?_
                  rotate_left
                  · (intro w hSw; (try dsimp only at hSw); obtain ⟨⟨s2, s3, s4, s5, s6⟩, _⟩ := hSw; go_simp) <;> with_reducible rfl
                  try simp only [Act.put, List.setIfInBounds_toArray, List.set_cons_zero, List.set_cons_succ]
                  refine wpAnyH_take (i := 17) (oi := { dst := some 132, op := Op.move (Operand.tmp 7), type := 25, pos := "law.go:234", after := #[{ on := 16, ground := Ground.guard }], guard := some (16, false) }) (v := ?_) rfl (by kernel_rfl) (by kernel_rfl) (by kernel_rfl) (fun _ _ _ h => h) (Or.inl ⟨by rfl, ?_⟩) (by assumption) ?_
                  rotate_left
                  · (intro w hSw; (try dsimp only at hSw); obtain ⟨⟨s2, s3, s4, s5, s6⟩, _⟩ := hSw; go_simp) <;> with_reducible rfl
                  try simp only [Act.put, List.setIfInBounds_toArray, List.set_cons_zero, List.set_cons_succ]
                  refine wpAnyH_take (i := 19) (oi := { dst := some 134, op := Op.move (Operand.tmp 9), type := 44, pos := "law.go:234", after := #[{ on := 16, ground := Ground.guard }], guard := some (16, false) }) (v := ?_) rfl (by kernel_rfl) (by kernel_rfl) (by kernel_rfl) (fun _ _ _ h => h) (Or.inl ⟨by rfl, ?_⟩) (by assumption) ?_
                  rotate_left
                  · (intro w hSw; (try dsimp only at hSw); obtain ⟨⟨s2, s3, s4, s5, s6⟩, _⟩ := hSw; go_simp) <;> with_reducible rfl
                  try simp only [Act.put, List.setIfInBounds_toArray, List.set_cons_zero, List.set_cons_succ]
                  refine wpAnyH_take (i := 20) (oi := { dst := some 135, op := Op.call { callee := Callee.builtin Builtin.len, args := #[Operand.tmp 134], argTypes := #[44] }, type := 3, pos := "law.go:234", after := #[{ on := 19, ground := Ground.data }, { on := 16, ground := Ground.guard }], guard := some (16, false) }) (v := ?_) rfl (by kernel_rfl) (by kernel_rfl) (by kernel_rfl) (fun _ _ _ h => h) (Or.inl ⟨by rfl, ?_⟩) (by assumption) ?_
                  rotate_left
                  · (intro w hSw; (try dsimp only at hSw); obtain ⟨⟨s2, s3, s4, s5, s6⟩, _⟩ := hSw; go_simp) <;> with_reducible rfl
                  try simp only [Act.put, List.setIfInBounds_toArray, List.set_cons_zero, List.set_cons_succ]
                  refine wpAnyH_take (i := 21) (oi := { dst := some 136, op := Op.binOp BinOp.sub 3 (Operand.tmp 135) (Operand.const (Value.int IntKind.i64 1)) 3, type := 3, pos := "law.go:234", after := #[{ on := 20, ground := Ground.data }, { on := 16, ground := Ground.guard }], guard := some (16, false) }) (v := ?_) rfl (by kernel_rfl) (by kernel_rfl) (by kernel_rfl) (fun _ _ _ h => h) (Or.inl ⟨by rfl, ?_⟩) (by assumption) ?_
                  rotate_left
                  · (intro w hSw; (try dsimp only at hSw); obtain ⟨⟨s2, s3, s4, s5, s6⟩, _⟩ := hSw; go_simp) <;> with_reducible rfl
                  try simp only [Act.put, List.setIfInBounds_toArray, List.set_cons_zero, List.set_cons_succ]
                  refine wpAnyH_ready (rs := [18]) (by kernel_rfl) (by simp) ?_
                  refine AllReadyH.cons (o := { dst := some 133, op := Op.call { callee := Callee.value (Operand.func 15), args := #[Operand.tmp 132], argTypes := #[25] }, type := 3, pos := "law.go:234", after := #[{ on := 17, ground := Ground.data }, { on := 16, ground := Ground.chain }, { on := 16, ground := Ground.guard }], guard := some (16, false) }) rfl (fun K hK => ?_) AllReadyH.nil
                  go_simp
                  refine Calls.mono (HIN.out _ hHeld.2).2.2.2 ?_
                  rintro _ w7 ⟨rfl, rfl⟩
                  refine hK.out _ _ hHeld (fun hHeld => ?_)
                  clear hK K
                  refine wpAnyH_take (i := 22) (oi := { dst := some 137, op := Op.binOp BinOp.neq 3 (Operand.tmp 133) (Operand.tmp 136) 3, type := 4, pos := "law.go:234", after := #[{ on := 18, ground := Ground.data }, { on := 21, ground := Ground.data }, { on := 16, ground := Ground.guard }], guard := some (16, false) }) (v := ?_) rfl (by kernel_rfl) (by kernel_rfl) (by kernel_rfl) (fun _ _ _ h => h) (Or.inl ⟨by rfl, ?_⟩) (by assumption) ?_
                  rotate_left
                  · (intro w hSw; (try dsimp only at hSw); obtain ⟨⟨s2, s3, s4, s5, s6⟩, _⟩ := hSw; go_simp) <;> with_reducible rfl
                  try simp only [Act.put, List.setIfInBounds_toArray, List.set_cons_zero, List.set_cons_succ]
                  refine wpAnyH_take (i := 23) (oi := { dst := some 138, op := Op.pick (Operand.tmp 131) (Operand.const (Value.bool true)) (Operand.tmp 137), type := 4, pos := "law.go:234", after := #[{ on := 16, ground := Ground.data }, { on := 22, ground := Ground.data }], guard := none }) (v := ?_) rfl (by kernel_rfl) (by kernel_rfl) (by kernel_rfl) (fun _ _ _ h => h) (Or.inl ⟨by rfl, ?_⟩) (by assumption) ?_
                  rotate_left
                  · (intro w hSw; (try dsimp only at hSw); obtain ⟨⟨s2, s3, s4, s5, s6⟩, _⟩ := hSw; go_simp) <;> with_reducible rfl
                  try simp only [Act.put, List.setIfInBounds_toArray, List.set_cons_zero, List.set_cons_succ]
                  refine wpAnyH_done (by kernel_rfl) ?_ _
                  have H7 : Hid (Below w5.heap.size w5 w7) := hHeld.2
                  clear hHeld S0
                  go_wp2_with fail
                  go_loopw [15, 16] (fun vr vj wq => ∃ (j : Nat) (R : List BbT) (ra : Option Addr) (rc : Nat), j ≤ L2.length ∧ vj = .int .i64 (j : Int) ∧ vr = .slice ra R.length rc ∧ Hid (R = restL A B j ∧ Below w7.heap.size w7 wq ∧ wq.ownsRow w7.heap.size 30 1 (.slice ra R.length rc) R.length (R.map BbT.v))) (fun _ vj _ => L2.length - (intOf vj).toNat)
                  case atStart => exact ⟨0, [], none, 0, by omega, rfl, rfl, (restL_zero A B).symm, Below.refl _ _, World.ownsRow_nil _ _ _ _⟩
                  case round =>
                    obtain ⟨j, R, ra, rc, hj, rfl, rfl, HR⟩ := hrel
                    rename World => wq
                    have HJQ : Hid (OnI w wq b (.slice (some ⟨lg, 0, none⟩) L2.length sc2) L2 (A ++ B)) := HJ5.out.1.1.below (H7.out.trans (HR.out.2.1.mono H7.out.size))
                    by_cases hjl : j < L2.length
                    · have hd3 : decide ((j : Int) < (L2.length : Int)) = true := decide_eq_true (by omega)
                      obtain ⟨o', ho'⟩ : ∃ o', L2[j]? = some o' := ⟨_, List.getElem?_eq_getElem hjl⟩
                      obtain ⟨g, e, hz, q0⟩ := row1_at HJQ.out.row ho'
                      simp only [Option.some.injEq, Addr.mk.injEq, and_true] at e
                      subst e
                      by_cases hjk : j = 0
                      · have dq : ((j : Int) == 0) = true := by simp; omega
                        have HR2 : Hid (R = restL A B (j + 1)) := by
                          show R = _
                          rw [HR.out.1, hjk, ← HGD.out.2.2, restL_skip]
                        go_wp2_with fail
                        go_roundw
                        case rel => exact ⟨j + 1, R, ra, rc, by omega, by simp <;> omega, rfl, HR2.out, HR.out.2.1, HR.out.2.2⟩
                        case measure => simp [intOf]; omega
                      · have dq : ((j : Int) == 0) = false := by simp; omega
                        have HR2 : Hid (R ++ [o'] = restL A B (j + 1)) := by
                          show _ = _
                          rw [HR.out.1]
                          exact (restL_next (x := x) (by rw [← HGD.out.2.1]; exact ho') (by rw [HGD.out.2.2]; exact hjk)).symm
                        have hRl : R.length ≤ j := by rw [HR.out.1]; exact restL_len A B j
                        have bq := oneL wq (.cells #[.slice o'.ba o'.bs.length o'.bc] 30)
                        obtain ⟨sv8, w8, hr, ho8, hk8⟩ := app_bb (x := o') (rowKl HR.out.2.2 (Below.kept bq) (fun g hg => by have := (HR.out.2.2.lt g hg).2; omega)) (heap_alloc_new wq (.cells #[.slice o'.ba o'.bs.length o'.bc] 30)) (by omega) (Nat.le_trans HR.out.2.1.size bq.size)
                        obtain ⟨a8, c8, rfl⟩ := rowSl ho8
                        have HR8 : Hid (Below w7.heap.size w7 w8 ∧ w8.ownsRow w7.heap.size 30 1 (.slice a8 (R ++ [o']).length c8) (R ++ [o']).length ((R ++ [o']).map BbT.v)) := by
                          refine ⟨(HR.out.2.1.trans (bq.mono HR.out.2.1.size)).trans (hk8.below (Nat.le_trans HR.out.2.1.size bq.size) (fun k e => (HR.out.2.2.lt k e).1)), ho8⟩
                        clear bq ho8 hk8 ho'
                        go_wp2_with (at_builtin; refine wpList_appL _ rfl _ _ 44 rfl _ _ rfl rfl (hr _) ?_)
                        clear hr
                        go_roundw
                        case rel => exact ⟨j + 1, R ++ [o'], a8, c8, by omega, by simp, by first | rfl | simp, HR2.out, HR8.out.1, HR8.out.2⟩
                        case measure => simp [intOf]; omega
                    · have hd3 : decide ((j : Int) < (L2.length : Int)) = false := decide_eq_false (by omega)
                      obtain rfl : R = A ++ B := by
                        rw [HR.out.1, show j = L2.length by omega, HGD.out.2.1, restL_all]
                      have HJN : Hid (OnI w wq b (.slice ra (A ++ B).length rc) (A ++ B) (A ++ B) ∧ ∀ t ∈ A ++ B, GoodBb w t) := by
                        refine ⟨⟨HJQ.out.bel, HJQ.out.net, row_lowerl HR.out.2.2 (Nat.le_trans HJ5.out.1.1.bel.size H7.out.size)⟩, fun t ht => HGD.out.1 t ?_⟩
                        rw [HGD.out.2.1]
                        rcases List.mem_append.1 ht with ht | ht
                        · exact List.mem_append_left _ ht
                        · exact List.mem_append_right _ (List.mem_cons_of_mem _ ht)
                      clear HJQ HR
                      go_wp2_with fail
                      go_roundw
                      case rel => exact ⟨i2 + 1, A ++ B, ra, rc, by first | rfl | simp, by simp, by have := HN.out; simp; omega, HJN.out⟩
                      case measure => (have := HN.out; simp [lenS]; omega)
              · have hd : decide ((0 : Int) < (L2.length : Int)) = false := decide_eq_false (by omega)
                obtain ⟨nv, ms, hn1, hn2, hn4⟩ := HJ.out.1.net
                have hm0 : ms.length = 0 := by have := hn2.len; omega
                have HD : Hid (Calls Try.prog 13 #[.pointer (some ⟨b, 0, none⟩), .int .i64 0] wr fun e w' => e = .returned (.tuple #[.agg #[.int .i8 0, .int .i8 0, .slice none 0 0, .bool false], .int .i64 220]) ∧ Below wr.heap.size wr w') := take_no hn1 0 (.inr (by omega))
                have HLN : Hid (∀ W, Below wr.heap.size wr W → Calls Try.prog 15 #[.pointer (some ⟨b, 0, none⟩)] W fun e w' => e = .returned (.int .i64 0) ∧ w' = W) := fun W hW => by
                  have := len_anyL (hn1.below hW)
                  rw [hm0] at this
                  exact this
                clear hn1 hn2 hn4 hm0
                go_wp2_with fail
                refine Calls.mono HD.out ?_
                rintro _ w4 ⟨rfl, g1⟩
                have H5 : Hid (Below wr.heap.size wr (w4.alloc (.cells #[.int .i8 0, .int .i8 0, .slice none 0 0, .bool false] 38))) := g1.trans ((oneL w4 _).mono g1.size)
                clear g1 HD
                go_wp2_with fail
                refine Calls.mono (HLN.out _ H5.out) ?_
                rintro _ _ ⟨rfl, rfl⟩
                go_wp2_with fail
                all_goals (go_ret; exact ⟨rfl, HJ.out.1.bel.trans (H5.out.mono HJ.out.1.bel.size)⟩)
      · have hx1 : i < l.length := by omega
        have hd : decide ((i : Int) < (l.length : Int)) = true := decide_eq_true (by omega)
        have hd2 : decide ((i : Int) < 40) = false := decide_eq_false (by omega)
        have hx2 : ¬ i < 40 := by omega
        clear hlt
        have HNW : Hid _ := new_good wr 3 (by decide) (by decide)
        have hsz := HF.out.2.size
        go_wp2_with fail
        refine Calls.mono HNW.out ?_
        rintro _ w3 ⟨rfl, h3, b3⟩
        have HA : Hid (OnI w w3 wr.heap.size (.slice none 0 0) [] []) := ⟨HF.out.2.trans (b3.mono hsz), ⟨_, [], h3, trivial, fun k hk => by
          rcases hk with rfl | hk | ⟨m, hm, _⟩
          · exact hsz
          · simp [Value.ownBlock] at hk
          · simp at hm⟩, World.ownsRow_nil _ _ _ _⟩
        have HFT : Hid (∀ t ∈ l.take 40, t.bs.length ≤ 4194304) := HF.out.1
        clear h3 b3 HNW HF hsz
        generalize wr.heap.size = b at *
        clear hd hi h40 hx1
        try clear hd2 hx2
        go_wp2_with fail
        go_loopw [9, 10] (fun vs vi wr => ∃ (i : Nat) (L : List BbT) (sa : Option Addr) (sc : Nat), i ≤ l.length ∧ i ≤ 40 ∧ vi = .int .i64 (i : Int) ∧ vs = .slice sa L.length sc ∧ L.length ≤ i ∧ Hid (OnI w wr b (.slice sa L.length sc) L L ∧ ∀ t ∈ L, GoodBb w t)) (fun _ vi _ => l.length - (intOf vi).toNat)
        case atStart => exact ⟨0, [], none, 0, by omega, by omega, rfl, rfl, by simp, HA.out, fun t ht => by simp at ht⟩
        case round =>
          clear HA
          obtain ⟨i, L, sa, sc, hi, h40, rfl, rfl, hLi, HJ⟩ := hrel
          by_cases hlt : i < l.length ∧ i < 40
          · have hd : decide ((i : Int) < (l.length : Int)) = true := decide_eq_true (by omega)
            have hd2 : decide ((i : Int) < 40) = true := decide_eq_true (by omega)
            obtain ⟨o, ho⟩ : ∃ o, l[i]? = some o := ⟨_, List.getElem?_eq_getElem hlt.1⟩
            obtain ⟨sb, soff, rfl, hz, q0⟩ := HC.out wr HJ.out.1.bel i o ho
            have hlt1 := hlt.1
            have HO : Hid (GoodBb w o) := HG.out o (List.mem_of_getElem? ho)
            have HCP : Hid (∀ W, Below w.heap.size w W → ∃ z, z = sb ∧ sb < W.heap.size ∧ W.cell? ⟨sb, soff + i, none⟩ = some (.slice o.ba o.bs.length o.bc)) := fun W hW => by
              obtain ⟨b', off', e, h1, h2⟩ := HC.out W hW i o ho
              simp only [Option.some.injEq, Addr.mk.injEq, and_true] at e
              obtain ⟨rfl, rfl⟩ := e
              exact ⟨_, rfl, h1, h2⟩
            have hob : o.bs.length ≤ 4194304 := HFT.out o (by
              apply List.mem_of_getElem? (i := i)
              rw [List.getElem?_take, if_pos hlt.2]; exact ho)
            clear ho
            go_wp2_with fail
            refine Calls.mono (copyBytes_any _ o.bs _ ((HO.out.below HJ.out.1.bel).se) (by omega)) ?_
            rintro _ w4 ⟨v4, rfl, ho4, hb4⟩
            obtain ⟨a4, c4, rfl⟩ := rowSl ho4
            have H4 : Hid ((OnI w w4 b (.slice sa L.length sc) L L ∧ ∀ t ∈ L, GoodBb w t) ∧ Owns w4 0 (.slice a4 o.bs.length c4) o.bs) := ⟨⟨HJ.out.1.below hb4, HJ.out.2⟩, row_lowerl ho4 (Nat.zero_le _)⟩
            clear ho4 hb4 HJ q0 hz
            obtain ⟨nv, ms, hn1, hn2, hn4⟩ := H4.out.1.1.net
            have HNT : Hid (Nt w4 b 3 nv ms ∧ AreT ms L ∧ ∀ k, Fn b nv ms k → w.heap.size ≤ k) := ⟨hn1, hn2, hn4⟩
            have hml : ms.length ≤ 100000000 := by have := hn2.len; omega
            clear hn1 hn2 hn4
            have hok : okS 3 2 0 o.bs.length = (decide (1 ≤ o.bs.length) && decide (o.bs.length ≤ 8192)) := by simp [okS, hasL]
            go_wp2_with fail
            cases hk : okS 3 2 0 o.bs.length with
            | false =>
              refine Calls.mono (send_no HNT.out.1 2 0 (by decide) (by decide) (by decide) (by decide) a4 o.bs.length c4 hk) ?_
              rintro _ w5 ⟨rfl, rfl⟩
              obtain ⟨_, _, hz, q0⟩ := HCP.out w5 H4.out.1.1.bel
              have HJ : Hid (OnI w w5 b (.slice sa L.length sc) L L ∧ ∀ t ∈ L, GoodBb w t) := H4.out.1
              clear H4 HNT
              rw [hk] at hok
              by_cases hl0 : o.bs.length = 0
              · have hd3 : decide ((0 : Int) < (o.bs.length : Int)) = false := decide_eq_false (by omega)
                have hd3' : decide (0 < o.bs.length) = false := decide_eq_false (by omega)
                clear hok hk
                go_wp2_with fail
                go_roundw
                case rel => exact ⟨i + 1, L, sa, sc, by omega, by omega, by simp, rfl, by omega, HJ.out⟩
                case measure => simp [intOf]; omega
              · have hd3 : decide ((0 : Int) < (o.bs.length : Int)) = true := decide_eq_true (by omega)
                have hd3' : decide (0 < o.bs.length) = true := decide_eq_true (by omega)
                have hd4 : decide ((o.bs.length : Int) ≤ 8192) = false := decide_eq_false (fun h => by
                  have h1 : decide (1 ≤ o.bs.length) = true := decide_eq_true (by omega)
                  have h2 : decide (o.bs.length ≤ 8192) = true := decide_eq_true (by omega)
                  rw [h1, h2] at hok; cases hok)
                clear hok hk
                go_wp2_with fail
                go_roundw
                case rel => exact ⟨i + 1, L, sa, sc, by omega, by omega, by simp, rfl, by omega, HJ.out⟩
                case measure => simp [intOf]; omega
            | true =>
              obtain ⟨g4, rfl⟩ : ∃ g, a4 = some ⟨g, 0, none⟩ := by
                have hl1 : 1 ≤ o.bs.length := by
                  have := hk
                  simp only [okS, Bool.and_eq_true, decide_eq_true_eq] at this
                  exact this.1.2
                obtain ⟨_, ⟨e, h0⟩ | ⟨g, c, cur, e, _⟩⟩ := H4.out.2
                · omega
                · simp only [Value.slice.injEq] at e; exact ⟨g, e.1⟩
              refine Calls.mono (send_yes HNT.out.1 2 0 (by decide) (by decide) (by decide) (by decide) g4 0 c4 o.bs (Sees.own H4.out.2) HO.out.by' hml hk) ?_
              rintro _ w5 ⟨rfl, nv', R, g1, g2, g3, g5⟩
              have H5 : Hid (OnI w w5 b (.slice sa L.length sc) L (L ++ [o])) := H4.out.1.1.send HNT.out.1 HNT.out.2.1 HNT.out.2.2 g1 g2 g3 g5
              have HGL : Hid (∀ t ∈ L ++ [o], GoodBb w t) := fun t ht => by
                rcases List.mem_append.1 ht with ht | ht
                · exact H4.out.1.2 t ht
                · simp at ht; subst ht; exact HO.out
              clear g1 g2 g3 g5 H4 HNT hok hk
              obtain ⟨_, _, hz, q0⟩ := HCP.out w5 H5.out.bel
              have HJ6 := H5.out.below (oneL w5 (.cells #[.slice o.ba o.bs.length o.bc] 30))
              obtain ⟨sv7, w7, hr, ho7, hk7⟩ := app_bb (x := o) HJ6.row (heap_alloc_new w5 (.cells #[.slice o.ba o.bs.length o.bc] 30)) (by omega) HJ6.bel.size
              obtain ⟨a7, c7, rfl⟩ := rowSl ho7
              have HJ : Hid (OnI w w7 b (.slice a7 (L ++ [o]).length c7) (L ++ [o]) (L ++ [o])) := HJ6.app hk7 ho7
              clear HJ6 ho7 hk7 H5
              go_wp2_with (at_builtin; refine wpList_appL _ rfl _ _ 44 rfl _ _ rfl rfl (hr _) ?_)
              clear hr
              go_roundw
              case rel => exact ⟨i + 1, L ++ [o], a7, c7, by omega, by omega, by simp, by first | rfl | simp, by simp; omega, HJ.out, HGL.out⟩
              case measure => simp [intOf]; omega
          · skip
            have hx1 : i < l.length := by omega
            have hd : decide ((i : Int) < (l.length : Int)) = true := decide_eq_true (by omega)
            have hd2 : decide ((i : Int) < 40) = false := decide_eq_false (by omega)
            have hx2 : ¬ i < 40 := by omega
            clear hlt
            have hL40 : L.length ≤ 40 := by omega
            go_wp2_with fail
            clear hd hi h40 hLi hx1
            try clear hd2 hx2
            go_loopw [9, 11] (fun vs vi wr => ∃ (i : Nat) (L : List BbT) (sa : Option Addr) (sc : Nat), vs = .slice sa L.length sc ∧ vi = .int .i64 (i : Int) ∧ i + L.length ≤ 40 ∧ Hid (OnI w wr b (.slice sa L.length sc) L L ∧ ∀ t ∈ L, GoodBb w t)) (fun vs _ _ => lenS vs)
            case atStart => exact ⟨0, L, sa, sc, rfl, rfl, by omega, HJ.out⟩
            case round =>
              clear HJ hL40
              obtain ⟨i2, L2, sa2, sc2, rfl, rfl, hil, HJ⟩ := hrel
              by_cases hL : 0 < L2.length
              · have hd : decide ((0 : Int) < (L2.length : Int)) = true := decide_eq_true (by omega)
                go_upto_region 22 with fail
                by_cases h1 : i2 < ps.length
                · have hd1 : decide ((i2 : Int) < (ps.length : Int)) = true := decide_eq_true (by omega)
                  obtain ⟨n, hn⟩ : ∃ n, ps[i2]? = some n := ⟨_, List.getElem?_eq_getElem h1⟩
                  obtain ⟨pb, poff, rfl, hz, q0⟩ := HP.out wr HJ.out.1.bel i2 n hn
                  have hnb := HPB.out n (List.mem_of_getElem? hn)
                  clear hn
                  by_cases h2 : 0 ≤ n
                  · have hd2 : decide (0 ≤ n) = true := decide_eq_true h2
                    obtain ⟨k, hk⟩ : ∃ k : Nat, n % (L2.length : Int) = (k : Int) := ⟨(n % (L2.length : Int)).toNat, by
                      have := Int.emod_nonneg n (b := (L2.length : Int)) (by omega)
                      omega⟩
                    have hkl : k < L2.length := by
                      have := Int.emod_lt_of_pos n (b := (L2.length : Int)) (by omega)
                      omega
                    go_wp2_with fail
                    rw [hk]
                    clear hk hd2 h2 hd1 h1 hnb hz q0
                    obtain ⟨A, x, B, hLL, hA⟩ := split_at (l := L2) (p := k) hkl
                    obtain ⟨nv, ms, hn1, hn2, hn4⟩ := HJ.out.1.net
                    rw [hLL] at hn2
                    obtain ⟨A', x', B', hms, hA', hxx, hab⟩ := hn2.split
                    have hnl := hn2.len
                    subst hms
                    have HN : Hid (L2.length = A.length + B.length + 1) := by show L2.length = _; rw [hLL]; simp; omega
                    obtain ⟨lg, rfl⟩ : ∃ lg, sa2 = some ⟨lg, 0, none⟩ := by
                      obtain ⟨g, e, _⟩ := row1_at HJ.out.1.row (j := k) (o := x) (by rw [hLL, ← hA, List.getElem?_append_right (Nat.le_refl _), Nat.sub_self]; rfl)
                      exact ⟨g, e⟩
                    have HD : Hid (Calls Try.prog 13 #[.pointer (some ⟨b, 0, none⟩), .int .i64 (k : Int)] wr fun e w' => e = .returned (.tuple #[.agg x'.cs.toArray, .int .i64 0]) ∧ ∃ v', Nt w' b 3 v' (A' ++ B') ∧ Kept wr w' (fun k => k = b ∨ nv.ownBlock = some k) ∧ v'.ownBlock = nv.ownBlock ∧ MsOk w' x') := by
                      have := take_yes hn1 (by rw [hnl, List.length_append, List.length_cons]; have := HN.out; omega)
                      rw [hA', hA] at this
                      exact this
                    have HTK : Hid (∀ w' v', Nt w' b 3 v' (A' ++ B') → Kept wr w' (fun k => k = b ∨ nv.ownBlock = some k) → v'.ownBlock = nv.ownBlock → OnI w w' b (.slice (some ⟨lg, 0, none⟩) L2.length sc2) L2 (A ++ B)) := fun w' v' e1 e2 e3 => HJ.out.1.take hn1 hn4 hab e1 e2 e3
                    have HGD : Hid ((∀ t ∈ L2, GoodBb w t) ∧ L2 = A ++ x :: B ∧ A.length = k) := ⟨HJ.out.2, hLL, hA⟩
                    have HXX : Hid (x'.bs = x.bs ∧ x'.sp = false) := hxx
                    have HLAB : Hid ((A' ++ B').length = (A ++ B).length) := hab.len
                    clear hn1 hn2 hn4 hnl hab HJ hLL hA hA' hxx
                    refine Calls.mono HD.out ?_
                    rintro _ w4 ⟨rfl, nv', g1, g2, g3, g4⟩
                    obtain ⟨w5, hw5⟩ : ∃ w5, w5 = w4.alloc (.cells x'.cs.toArray 38) := ⟨_, rfl⟩
                    have HJ5 : Hid ((OnI w w5 b (.slice (some ⟨lg, 0, none⟩) L2.length sc2) L2 (A ++ B) ∧ w5.heap[w4.heap.size]? = some (.cells x'.cs.toArray 38 (0, 0))) ∧ Sees w5 x'.v x'.bs) := by
                      rw [hw5]
                      exact ⟨⟨(HTK.out w4 nv' g1 g2 g3).below (oneL w4 _), heap_alloc_new w4 _⟩, g4.sees.below (oneL w4 _) (Nat.le_refl _)⟩
                    clear g1 g2 g3 g4 HD HTK
                    go_upto_region 25 with fail
                    rw [← hw5]
                    clear hw5
                    generalize w4.heap.size = mb at *
                    have HIN : Hid (∀ W, Below w5.heap.size w5 W → (W.cell? ⟨mb, 2, none⟩ = some x'.v ∧ W.cell? ⟨mb, 3, none⟩ = some (.bool false) ∧ W.cell? ⟨lg, k, none⟩ = some (.slice x.ba x.bs.length x.bc) ∧ mb < W.heap.size ∧ lg < W.heap.size) ∧ Sees W x'.v x'.bs ∧ Sees W (.slice x.ba x.bs.length x.bc) x.bs ∧ Calls Try.prog 15 #[.pointer (some ⟨b, 0, none⟩)] W fun e w' => e = .returned (.int .i64 ((L2.length : Int) - 1)) ∧ w' = W) := fun W hW => by
                      have hm := boxL HJ5.out.1.2 hW
                      have hJW := HJ5.out.1.1.below hW
                      have hxk : L2[k]? = some x := by rw [HGD.out.2.1, ← HGD.out.2.2, List.getElem?_append_right (Nat.le_refl _), Nat.sub_self]; rfl
                      obtain ⟨g, e, e1, e2⟩ := row1_at hJW.row hxk
                      simp only [Option.some.injEq, Addr.mk.injEq, and_true] at e
                      subst e
                      obtain ⟨v2, ms2, n1, n2, _⟩ := hJW.net
                      have hgx := (HGD.out.1 x (List.mem_of_getElem? hxk)).se
                      refine ⟨⟨by rw [cell_of_row _ _ _ _ _ _ hm]; rfl, by rw [cell_of_row _ _ _ _ _ _ hm, ← HXX.out.2]; rfl, e2, lt_of_block hm, e1⟩, HJ5.out.2.below hW (Nat.le_refl _), hgx.below hJW.bel (Nat.le_refl _), ?_⟩
                      have := len_anyL n1
                      rw [n2.len] at this
                      rw [show ((L2.length : Int) - 1) = (((A ++ B).length : Nat) : Int) by have := HN.out; rw [List.length_append]; omega]
                      exact this
                    have S0 : (w5.drew.cell? ⟨mb, 2, none⟩ = some x'.v ∧ w5.drew.cell? ⟨mb, 3, none⟩ = some (.bool false) ∧ w5.drew.cell? ⟨lg, k, none⟩ = some (.slice x.ba x.bs.length x.bc) ∧ mb < w5.drew.heap.size ∧ lg < w5.drew.heap.size) ∧ Below w5.heap.size w5 w5.drew := ⟨(HIN.out _ (below_drewN (Below.refl _ _) 1)).1, below_drewN (Below.refl _ _) 1⟩
                    have ew : IntKind.i64.wrap ((L2.length : Int) - 1) = (L2.length : Int) - 1 := by rw [IntKind.wrap_i64]; omega
                    refine wp_region_held_drew (S := (fun W => (W.cell? ⟨mb, 2, none⟩ = some x'.v ∧ W.cell? ⟨mb, 3, none⟩ = some (.bool false) ∧ W.cell? ⟨lg, k, none⟩ = some (.slice x.ba x.bs.length x.bc) ∧ mb < W.heap.size ∧ lg < W.heap.size) ∧ Below w5.heap.size w5 W)) (by kernel_rfl) ?_ (fun hHeld => ?_)
                    · exact S0
                    refine wpAnyH_take (i := 0) (oi := { dst := some 115, op := Op.move (Operand.tmp 14), type := 26, pos := "law.go:234", after := #[], guard := none }) (v := ?_) rfl (by kernel_rfl) (by kernel_rfl) (by kernel_rfl) (fun _ _ _ h => h) (Or.inl ⟨by rfl, ?_⟩) (by assumption) ?_
                    rotate_left
                    · (intro w hSw; (try dsimp only at hSw); obtain ⟨⟨s2, s3, s4, s5, s6⟩, _⟩ := hSw; go_simp) <;> with_reducible rfl
                    try simp only [Act.put, List.setIfInBounds_toArray, List.set_cons_zero, List.set_cons_succ]
                    refine wpAnyH_take (i := 1) (oi := { dst := some 116, op := Op.binOp BinOp.neq 26 (Operand.tmp 115) (Operand.const (Value.int IntKind.i64 0)) 26, type := 4, pos := "law.go:234", after := #[{ on := 0, ground := Ground.data }], guard := none }) (v := ?_) rfl (by kernel_rfl) (by kernel_rfl) (by kernel_rfl) (fun _ _ _ h => h) (Or.inl ⟨by rfl, ?_⟩) (by assumption) ?_
                    rotate_left
                    · (intro w hSw; (try dsimp only at hSw); obtain ⟨⟨s2, s3, s4, s5, s6⟩, _⟩ := hSw; go_simp) <;> with_reducible rfl
                    try simp only [Act.put, List.setIfInBounds_toArray, List.set_cons_zero, List.set_cons_succ]
                    refine wpAnyH_take (i := 2) (oi := { dst := some 117, op := Op.move (Operand.tmp 116), type := 4, pos := "law.go:234", after := #[{ on := 1, ground := Ground.data }], guard := none }) (v := ?_) rfl (by kernel_rfl) (by kernel_rfl) (by kernel_rfl) (fun _ _ _ h => h) (Or.inl ⟨by rfl, ?_⟩) (by assumption) ?_
                    rotate_left
                    · (intro w hSw; (try dsimp only at hSw); obtain ⟨⟨s2, s3, s4, s5, s6⟩, _⟩ := hSw; go_simp) <;> with_reducible rfl
                    try simp only [Act.put, List.setIfInBounds_toArray, List.set_cons_zero, List.set_cons_succ]
                    refine wpAnyH_take (i := 3) (oi := { dst := some 118, op := Op.fieldAddr 38 (Operand.tmp 13) 2, type := 0, pos := "law.go:234", after := #[{ on := 2, ground := Ground.guard }], guard := some (2, false) }) (v := ?_) rfl (by kernel_rfl) (by kernel_rfl) (by kernel_rfl) (fun _ _ _ h => h) (Or.inl ⟨by rfl, ?_⟩) (by assumption) ?_
                    rotate_left
                    · (intro w hSw; (try dsimp only at hSw); obtain ⟨⟨s2, s3, s4, s5, s6⟩, _⟩ := hSw; go_simp) <;> with_reducible rfl
                    try simp only [Act.put, List.setIfInBounds_toArray, List.set_cons_zero, List.set_cons_succ]
                    refine wpAnyH_take (i := 4) (oi := { dst := some 119, op := Op.load 30 (Operand.tmp 118), type := 30, pos := "law.go:234", after := #[{ on := 3, ground := Ground.data }, { on := 2, ground := Ground.guard }], guard := some (2, false) }) (v := ?_) rfl (by kernel_rfl) (by kernel_rfl) (by kernel_rfl) (fun _ _ _ h => h) (Or.inl ⟨by rfl, ?_⟩) (by assumption) ?_
                    rotate_left
                    · (intro w hSw; (try dsimp only at hSw); obtain ⟨⟨s2, s3, s4, s5, s6⟩, _⟩ := hSw; go_simp) <;> with_reducible rfl
                    try simp only [Act.put, List.setIfInBounds_toArray, List.set_cons_zero, List.set_cons_succ]
                    refine wpAnyH_take (i := 5) (oi := { dst := some 120, op := Op.move (Operand.tmp 9), type := 44, pos := "law.go:234", after := #[{ on := 2, ground := Ground.guard }], guard := some (2, false) }) (v := ?_) rfl (by kernel_rfl) (by kernel_rfl) (by kernel_rfl) (fun _ _ _ h => h) (Or.inl ⟨by rfl, ?_⟩) (by assumption) ?_
                    rotate_left
                    · (intro w hSw; (try dsimp only at hSw); obtain ⟨⟨s2, s3, s4, s5, s6⟩, _⟩ := hSw; go_simp) <;> with_reducible rfl
                    try simp only [Act.put, List.setIfInBounds_toArray, List.set_cons_zero, List.set_cons_succ]
                    refine wpAnyH_take (i := 6) (oi := { dst := some 121, op := Op.move (Operand.tmp 12), type := 3, pos := "law.go:234", after := #[{ on := 2, ground := Ground.guard }], guard := some (2, false) }) (v := ?_) rfl (by kernel_rfl) (by kernel_rfl) (by kernel_rfl) (fun _ _ _ h => h) (Or.inl ⟨by rfl, ?_⟩) (by assumption) ?_
                    rotate_left
                    · (intro w hSw; (try dsimp only at hSw); obtain ⟨⟨s2, s3, s4, s5, s6⟩, _⟩ := hSw; go_simp) <;> with_reducible rfl
                    try simp only [Act.put, List.setIfInBounds_toArray, List.set_cons_zero, List.set_cons_succ]
                    refine wpAnyH_take (i := 7) (oi := { dst := some 122, op := Op.indexAddr 44 (Operand.tmp 120) (Operand.tmp 121), type := 0, pos := "law.go:234", after := #[{ on := 5, ground := Ground.data }, { on := 6, ground := Ground.data }, { on := 2, ground := Ground.guard }], guard := some (2, false) }) (v := ?_) rfl (by kernel_rfl) (by kernel_rfl) (by kernel_rfl) (fun _ _ _ h => h) (Or.inl ⟨by rfl, ?_⟩) (by assumption) ?_
                    rotate_left
                    · (intro w hSw; (try dsimp only at hSw); obtain ⟨⟨s2, s3, s4, s5, s6⟩, _⟩ := hSw; go_simp) <;> with_reducible rfl
                    try simp only [Act.put, List.setIfInBounds_toArray, List.set_cons_zero, List.set_cons_succ]
                    refine wpAnyH_take (i := 8) (oi := { dst := some 123, op := Op.load 30 (Operand.tmp 122), type := 30, pos := "law.go:234", after := #[{ on := 7, ground := Ground.data }, { on := 2, ground := Ground.guard }], guard := some (2, false) }) (v := ?_) rfl (by kernel_rfl) (by kernel_rfl) (by kernel_rfl) (fun _ _ _ h => h) (Or.inl ⟨by rfl, ?_⟩) (by assumption) ?_
                    rotate_left
                    · (intro w hSw; (try dsimp only at hSw); obtain ⟨⟨s2, s3, s4, s5, s6⟩, _⟩ := hSw; go_simp) <;> with_reducible rfl
                    try simp only [Act.put, List.setIfInBounds_toArray, List.set_cons_zero, List.set_cons_succ]
                    refine wpAnyH_ready (rs := [9]) (by kernel_rfl) (by simp) ?_
                    refine AllReadyH.cons (o := { dst := some 124, op := Op.call { callee := Callee.value (Operand.func 16), args := #[Operand.tmp 119, Operand.tmp 123], argTypes := #[30, 30] }, type := 4, pos := "law.go:234", after := #[{ on := 4, ground := Ground.data }, { on := 8, ground := Ground.data }, { on := 2, ground := Ground.chain }, { on := 2, ground := Ground.guard }], guard := some (2, false) }) rfl (fun K hK => ?_) AllReadyH.nil
                    go_simp
                    refine Calls.mono (eqBytes_any _ _ x'.bs x.bs _ (HIN.out _ hHeld.2).2.1 (HIN.out _ hHeld.2).2.2.1) ?_
                    rw [decide_eq_true HXX.out.1]
                    rintro _ w6 ⟨rfl, n6, e6⟩
                    have b6 : Below w5.heap.size w5 w6 := by rw [e6]; exact below_drewN hHeld.2 n6
                    clear e6 hHeld
                    refine hK.out _ _ ⟨(HIN.out _ b6).1, b6⟩ (fun hHeld => ?_)
                    clear hK K
                    refine wpAnyH_take (i := 10) (oi := { dst := some 125, op := Op.unOp UnOp.not 4 (Operand.tmp 124), type := 4, pos := "law.go:234", after := #[{ on := 9, ground := Ground.data }, { on := 2, ground := Ground.guard }], guard := some (2, false) }) (v := ?_) rfl (by kernel_rfl) (by kernel_rfl) (by kernel_rfl) (fun _ _ _ h => h) (Or.inl ⟨by rfl, ?_⟩) (by assumption) ?_
                    rotate_left
                    · (intro w hSw; (try dsimp only at hSw); obtain ⟨⟨s2, s3, s4, s5, s6⟩, _⟩ := hSw; go_simp) <;> with_reducible rfl
                    try simp only [Act.put, List.setIfInBounds_toArray, List.set_cons_zero, List.set_cons_succ]
                    refine wpAnyH_take (i := 11) (oi := { dst := some 126, op := Op.pick (Operand.tmp 117) (Operand.const (Value.bool true)) (Operand.tmp 125), type := 4, pos := "law.go:234", after := #[{ on := 2, ground := Ground.data }, { on := 10, ground := Ground.data }], guard := none }) (v := ?_) rfl (by kernel_rfl) (by kernel_rfl) (by kernel_rfl) (fun _ _ _ h => h) (Or.inl ⟨by rfl, ?_⟩) (by assumption) ?_
                    rotate_left
                    · (intro w hSw; (try dsimp only at hSw); obtain ⟨⟨s2, s3, s4, s5, s6⟩, _⟩ := hSw; go_simp) <;> with_reducible rfl
                    try simp only [Act.put, List.setIfInBounds_toArray, List.set_cons_zero, List.set_cons_succ]
                    refine wpAnyH_take (i := 12) (oi := { dst := some 127, op := Op.move (Operand.tmp 126), type := 4, pos := "law.go:234", after := #[{ on := 11, ground := Ground.data }, { on := 9, ground := Ground.chain }], guard := none }) (v := ?_) rfl (by kernel_rfl) (by kernel_rfl) (by kernel_rfl) (fun _ _ _ h => h) (Or.inl ⟨by rfl, ?_⟩) (by assumption) ?_
                    rotate_left
                    · (intro w hSw; (try dsimp only at hSw); obtain ⟨⟨s2, s3, s4, s5, s6⟩, _⟩ := hSw; go_simp) <;> with_reducible rfl
                    try simp only [Act.put, List.setIfInBounds_toArray, List.set_cons_zero, List.set_cons_succ]
                    refine wpAnyH_take (i := 13) (oi := { dst := some 128, op := Op.fieldAddr 38 (Operand.tmp 13) 3, type := 0, pos := "law.go:234", after := #[{ on := 12, ground := Ground.guard }], guard := some (12, false) }) (v := ?_) rfl (by kernel_rfl) (by kernel_rfl) (by kernel_rfl) (fun _ _ _ h => h) (Or.inl ⟨by rfl, ?_⟩) (by assumption) ?_
                    rotate_left
                    · (intro w hSw; (try dsimp only at hSw); obtain ⟨⟨s2, s3, s4, s5, s6⟩, _⟩ := hSw; go_simp) <;> with_reducible rfl
                    try simp only [Act.put, List.setIfInBounds_toArray, List.set_cons_zero, List.set_cons_succ]
                    refine wpAnyH_take (i := 14) (oi := { dst := some 129, op := Op.load 4 (Operand.tmp 128), type := 4, pos := "law.go:234", after := #[{ on := 13, ground := Ground.data }, { on := 12, ground := Ground.guard }], guard := some (12, false) }) (v := ?_) rfl (by kernel_rfl) (by kernel_rfl) (by kernel_rfl) (fun _ _ _ h => h) (Or.inl ⟨by rfl, ?_⟩) (by assumption) ?_
                    rotate_left
                    · (intro w hSw; (try dsimp only at hSw); obtain ⟨⟨s2, s3, s4, s5, s6⟩, _⟩ := hSw; go_simp) <;> with_reducible rfl
                    try simp only [Act.put, List.setIfInBounds_toArray, List.set_cons_zero, List.set_cons_succ]
                    refine wpAnyH_take (i := 15) (oi := { dst := some 130, op := Op.pick (Operand.tmp 127) (Operand.const (Value.bool true)) (Operand.tmp 129), type := 4, pos := "law.go:234", after := #[{ on := 12, ground := Ground.data }, { on := 14, ground := Ground.data }], guard := none }) (v := ?_) rfl (by kernel_rfl) (by kernel_rfl) (by kernel_rfl) (fun _ _ _ h => h) (Or.inl ⟨by rfl, ?_⟩) (by assumption) ?_
                    rotate_left
                    · (intro w hSw; (try dsimp only at hSw); obtain ⟨⟨s2, s3, s4, s5, s6⟩, _⟩ := hSw; go_simp) <;> with_reducible rfl
                    try simp only [Act.put, List.setIfInBounds_toArray, List.set_cons_zero, List.set_cons_succ]
                    refine wpAnyH_take (i := 16) (oi := { dst := some 131, op := Op.move (Operand.tmp 130), type := 4, pos := "law.go:234", after := #[{ on := 15, ground := Ground.data }, { on := 12, ground := Ground.chain }], guard := none }) (v := ?_) rfl (by kernel_rfl) (by kernel_rfl) (by kernel_rfl) (fun _ _ _ h => h) (Or.inl ⟨by rfl, ?_⟩) (by assumption) ?_
                    rotate_left
                    · (intro w hSw; (try dsimp only at hSw); obtain ⟨⟨s2, s3, s4, s5, s6⟩, _⟩ := hSw; go_simp) <;> with_reducible rfl
                    try simp only [Act.put, List.setIfInBounds_toArray, List.set_cons_zero, List.set_cons_succ]
                    refine wpAnyH_take (i := 17) (oi := { dst := some 132, op := Op.move (Operand.tmp 7), type := 25, pos := "law.go:234", after := #[{ on := 16, ground := Ground.guard }], guard := some (16, false) }) (v := ?_) rfl (by kernel_rfl) (by kernel_rfl) (by kernel_rfl) (fun _ _ _ h => h) (Or.inl ⟨by rfl, ?_⟩) (by assumption) ?_
                    rotate_left
                    · (intro w hSw; (try dsimp only at hSw); obtain ⟨⟨s2, s3, s4, s5, s6⟩, _⟩ := hSw; go_simp) <;> with_reducible rfl
                    try simp only [Act.put, List.setIfInBounds_toArray, List.set_cons_zero, List.set_cons_succ]
                    refine wpAnyH_take (i := 19) (oi := { dst := some 134, op := Op.move (Operand.tmp 9), type := 44, pos := "law.go:234", after := #[{ on := 16, ground := Ground.guard }], guard := some (16, false) }) (v := ?_) rfl (by kernel_rfl) (by kernel_rfl) (by kernel_rfl) (fun _ _ _ h => h) (Or.inl ⟨by rfl, ?_⟩) (by assumption) ?_
                    rotate_left
                    · (intro w hSw; (try dsimp only at hSw); obtain ⟨⟨s2, s3, s4, s5, s6⟩, _⟩ := hSw; go_simp) <;> with_reducible rfl
                    try simp only [Act.put, List.setIfInBounds_toArray, List.set_cons_zero, List.set_cons_succ]
                    refine wpAnyH_take (i := 20) (oi := { dst := some 135, op := Op.call { callee := Callee.builtin Builtin.len, args := #[Operand.tmp 134], argTypes := #[44] }, type := 3, pos := "law.go:234", after := #[{ on := 19, ground := Ground.data }, { on := 16, ground := Ground.guard }], guard := some (16, false) }) (v := ?_) rfl (by kernel_rfl) (by kernel_rfl) (by kernel_rfl) (fun _ _ _ h => h) (Or.inl ⟨by rfl, ?_⟩) (by assumption) ?_
                    rotate_left
                    · (intro w hSw; (try dsimp only at hSw); obtain ⟨⟨s2, s3, s4, s5, s6⟩, _⟩ := hSw; go_simp) <;> with_reducible rfl
                    try simp only [Act.put, List.setIfInBounds_toArray, List.set_cons_zero, List.set_cons_succ]
                    refine wpAnyH_take (i := 21) (oi := { dst := some 136, op := Op.binOp BinOp.sub 3 (Operand.tmp 135) (Operand.const (Value.int IntKind.i64 1)) 3, type := 3, pos := "law.go:234", after := #[{ on := 20, ground := Ground.data }, { on := 16, ground := Ground.guard }], guard := some (16, false) }) (v := ?_) rfl (by kernel_rfl) (by kernel_rfl) (by kernel_rfl) (fun _ _ _ h => h) (Or.inl ⟨by rfl, ?_⟩) (by assumption) ?_
                    rotate_left
                    · (intro w hSw; (try dsimp only at hSw); obtain ⟨⟨s2, s3, s4, s5, s6⟩, _⟩ := hSw; go_simp) <;> with_reducible rfl
                    try simp only [Act.put, List.setIfInBounds_toArray, List.set_cons_zero, List.set_cons_succ]
                    refine wpAnyH_ready (rs := [18]) (by kernel_rfl) (by simp) ?_
                    refine AllReadyH.cons (o := { dst := some 133, op := Op.call { callee := Callee.value (Operand.func 15), args := #[Operand.tmp 132], argTypes := #[25] }, type := 3, pos := "law.go:234", after := #[{ on := 17, ground := Ground.data }, { on := 16, ground := Ground.chain }, { on := 16, ground := Ground.guard }], guard := some (16, false) }) rfl (fun K hK => ?_) AllReadyH.nil
                    go_simp
                    refine Calls.mono (HIN.out _ hHeld.2).2.2.2 ?_
                    rintro _ w7 ⟨rfl, rfl⟩
                    refine hK.out _ _ hHeld (fun hHeld => ?_)
                    clear hK K
                    refine wpAnyH_take (i := 22) (oi := { dst := some 137, op := Op.binOp BinOp.neq 3 (Operand.tmp 133) (Operand.tmp 136) 3, type := 4, pos := "law.go:234", after := #[{ on := 18, ground := Ground.data }, { on := 21, ground := Ground.data }, { on := 16, ground := Ground.guard }], guard := some (16, false) }) (v := ?_) rfl (by kernel_rfl) (by kernel_rfl) (by kernel_rfl) (fun _ _ _ h => h) (Or.inl ⟨by rfl, ?_⟩) (by assumption) ?_
                    rotate_left
                    · (intro w hSw; (try dsimp only at hSw); obtain ⟨⟨s2, s3, s4, s5, s6⟩, _⟩ := hSw; go_simp) <;> with_reducible rfl
                    try simp only [Act.put, List.setIfInBounds_toArray, List.set_cons_zero, List.set_cons_succ]
                    refine wpAnyH_take (i := 23) (oi := { dst := some 138, op := Op.pick (Operand.tmp 131) (Operand.const (Value.bool true)) (Operand.tmp 137), type := 4, pos := "law.go:234", after := #[{ on := 16, ground := Ground.data }, { on := 22, ground := Ground.data }], guard := none }) (v := ?_) rfl (by kernel_rfl) (by kernel_rfl) (by kernel_rfl) (fun _ _ _ h => h) (Or.inl ⟨by rfl, ?_⟩) (by assumption) ?_
                    rotate_left
                    · (intro w hSw; (try dsimp only at hSw); obtain ⟨⟨s2, s3, s4, s5, s6⟩, _⟩ := hSw; go_simp) <;> with_reducible rfl
                    try simp only [Act.put, List.setIfInBounds_toArray, List.set_cons_zero, List.set_cons_succ]
                    refine wpAnyH_done (by kernel_rfl) ?_ _
                    have H7 : Hid (Below w5.heap.size w5 w7) := hHeld.2
                    clear hHeld S0
                    go_wp2_with fail
                    go_loopw [15, 16] (fun vr vj wq => ∃ (j : Nat) (R : List BbT) (ra : Option Addr) (rc : Nat), j ≤ L2.length ∧ vj = .int .i64 (j : Int) ∧ vr = .slice ra R.length rc ∧ Hid (R = restL A B j ∧ Below w7.heap.size w7 wq ∧ wq.ownsRow w7.heap.size 30 1 (.slice ra R.length rc) R.length (R.map BbT.v))) (fun _ vj _ => L2.length - (intOf vj).toNat)
                    case atStart => exact ⟨0, [], none, 0, by omega, rfl, rfl, (restL_zero A B).symm, Below.refl _ _, World.ownsRow_nil _ _ _ _⟩
                    case round =>
                      obtain ⟨j, R, ra, rc, hj, rfl, rfl, HR⟩ := hrel
                      rename World => wq
                      have HJQ : Hid (OnI w wq b (.slice (some ⟨lg, 0, none⟩) L2.length sc2) L2 (A ++ B)) := HJ5.out.1.1.below (H7.out.trans (HR.out.2.1.mono H7.out.size))
                      by_cases hjl : j < L2.length
                      · have hd3 : decide ((j : Int) < (L2.length : Int)) = true := decide_eq_true (by omega)
                        obtain ⟨o', ho'⟩ : ∃ o', L2[j]? = some o' := ⟨_, List.getElem?_eq_getElem hjl⟩
                        obtain ⟨g, e, hz, q0⟩ := row1_at HJQ.out.row ho'
                        simp only [Option.some.injEq, Addr.mk.injEq, and_true] at e
                        subst e
                        by_cases hjk : j = k
                        · have dq : ((j : Int) == (k : Int)) = true := by simp; omega
                          have HR2 : Hid (R = restL A B (j + 1)) := by
                            show R = _
                            rw [HR.out.1, hjk, ← HGD.out.2.2, restL_skip]
                          go_wp2_with fail
                          go_roundw
                          case rel => exact ⟨j + 1, R, ra, rc, by omega, by simp <;> omega, rfl, HR2.out, HR.out.2.1, HR.out.2.2⟩
                          case measure => simp [intOf]; omega
                        · have dq : ((j : Int) == (k : Int)) = false := by simp; omega
                          have HR2 : Hid (R ++ [o'] = restL A B (j + 1)) := by
                            show _ = _
                            rw [HR.out.1]
                            exact (restL_next (x := x) (by rw [← HGD.out.2.1]; exact ho') (by rw [HGD.out.2.2]; exact hjk)).symm
                          have hRl : R.length ≤ j := by rw [HR.out.1]; exact restL_len A B j
                          have bq := oneL wq (.cells #[.slice o'.ba o'.bs.length o'.bc] 30)
                          obtain ⟨sv8, w8, hr, ho8, hk8⟩ := app_bb (x := o') (rowKl HR.out.2.2 (Below.kept bq) (fun g hg => by have := (HR.out.2.2.lt g hg).2; omega)) (heap_alloc_new wq (.cells #[.slice o'.ba o'.bs.length o'.bc] 30)) (by omega) (Nat.le_trans HR.out.2.1.size bq.size)
                          obtain ⟨a8, c8, rfl⟩ := rowSl ho8
                          have HR8 : Hid (Below w7.heap.size w7 w8 ∧ w8.ownsRow w7.heap.size 30 1 (.slice a8 (R ++ [o']).length c8) (R ++ [o']).length ((R ++ [o']).map BbT.v)) := by
                            refine ⟨(HR.out.2.1.trans (bq.mono HR.out.2.1.size)).trans (hk8.below (Nat.le_trans HR.out.2.1.size bq.size) (fun k e => (HR.out.2.2.lt k e).1)), ho8⟩
                          clear bq ho8 hk8 ho'
                          go_wp2_with (at_builtin; refine wpList_appL _ rfl _ _ 44 rfl _ _ rfl rfl (hr _) ?_)
                          clear hr
                          go_roundw
                          case rel => exact ⟨j + 1, R ++ [o'], a8, c8, by omega, by simp, by first | rfl | simp, HR2.out, HR8.out.1, HR8.out.2⟩
                          case measure => simp [intOf]; omega
                      · have hd3 : decide ((j : Int) < (L2.length : Int)) = false := decide_eq_false (by omega)
                        obtain rfl : R = A ++ B := by
                          rw [HR.out.1, show j = L2.length by omega, HGD.out.2.1, restL_all]
                        have HJN : Hid (OnI w wq b (.slice ra (A ++ B).length rc) (A ++ B) (A ++ B) ∧ ∀ t ∈ A ++ B, GoodBb w t) := by
                          refine ⟨⟨HJQ.out.bel, HJQ.out.net, row_lowerl HR.out.2.2 (Nat.le_trans HJ5.out.1.1.bel.size H7.out.size)⟩, fun t ht => HGD.out.1 t ?_⟩
                          rw [HGD.out.2.1]
                          rcases List.mem_append.1 ht with ht | ht
                          · exact List.mem_append_left _ ht
                          · exact List.mem_append_right _ (List.mem_cons_of_mem _ ht)
                        clear HJQ HR
                        go_wp2_with fail
                        go_roundw
                        case rel => exact ⟨i2 + 1, A ++ B, ra, rc, by first | rfl | simp, by simp, by have := HN.out; simp; omega, HJN.out⟩
                        case measure => (have := HN.out; simp [lenS]; omega)
                  · have hd2 : decide (0 ≤ n) = false := decide_eq_false h2
                    have hkl : 0 < L2.length := hL
                    go_wp2_with fail
                    clear hd2 h2 hd1 h1 hnb hz q0
                    obtain ⟨A, x, B, hLL, hA⟩ := split_at (l := L2) (p := 0) hkl
                    obtain ⟨nv, ms, hn1, hn2, hn4⟩ := HJ.out.1.net
                    rw [hLL] at hn2
                    obtain ⟨A', x', B', hms, hA', hxx, hab⟩ := hn2.split
                    have hnl := hn2.len
                    subst hms
                    have HN : Hid (L2.length = A.length + B.length + 1) := by show L2.length = _; rw [hLL]; simp; omega
                    obtain ⟨lg, rfl⟩ : ∃ lg, sa2 = some ⟨lg, 0, none⟩ := by
                      obtain ⟨g, e, _⟩ := row1_at HJ.out.1.row (j := 0) (o := x) (by rw [hLL, ← hA, List.getElem?_append_right (Nat.le_refl _), Nat.sub_self]; rfl)
                      exact ⟨g, e⟩
                    have HD : Hid (Calls Try.prog 13 #[.pointer (some ⟨b, 0, none⟩), .int .i64 0] wr fun e w' => e = .returned (.tuple #[.agg x'.cs.toArray, .int .i64 0]) ∧ ∃ v', Nt w' b 3 v' (A' ++ B') ∧ Kept wr w' (fun k => k = b ∨ nv.ownBlock = some k) ∧ v'.ownBlock = nv.ownBlock ∧ MsOk w' x') := by
                      have := take_yes hn1 (by rw [hnl, List.length_append, List.length_cons]; have := HN.out; omega)
                      rw [hA', hA] at this
                      exact this
                    have HTK : Hid (∀ w' v', Nt w' b 3 v' (A' ++ B') → Kept wr w' (fun k => k = b ∨ nv.ownBlock = some k) → v'.ownBlock = nv.ownBlock → OnI w w' b (.slice (some ⟨lg, 0, none⟩) L2.length sc2) L2 (A ++ B)) := fun w' v' e1 e2 e3 => HJ.out.1.take hn1 hn4 hab e1 e2 e3
                    have HGD : Hid ((∀ t ∈ L2, GoodBb w t) ∧ L2 = A ++ x :: B ∧ A.length = 0) := ⟨HJ.out.2, hLL, hA⟩
                    have HXX : Hid (x'.bs = x.bs ∧ x'.sp = false) := hxx
                    have HLAB : Hid ((A' ++ B').length = (A ++ B).length) := hab.len
                    clear hn1 hn2 hn4 hnl hab HJ hLL hA hA' hxx
                    refine Calls.mono HD.out ?_
                    rintro _ w4 ⟨rfl, nv', g1, g2, g3, g4⟩
                    obtain ⟨w5, hw5⟩ : ∃ w5, w5 = w4.alloc (.cells x'.cs.toArray 38) := ⟨_, rfl⟩
                    have HJ5 : Hid ((OnI w w5 b (.slice (some ⟨lg, 0, none⟩) L2.length sc2) L2 (A ++ B) ∧ w5.heap[w4.heap.size]? = some (.cells x'.cs.toArray 38 (0, 0))) ∧ Sees w5 x'.v x'.bs) := by
                      rw [hw5]
                      exact ⟨⟨(HTK.out w4 nv' g1 g2 g3).below (oneL w4 _), heap_alloc_new w4 _⟩, g4.sees.below (oneL w4 _) (Nat.le_refl _)⟩
                    clear g1 g2 g3 g4 HD HTK
                    go_upto_region 25 with fail
                    rw [← hw5]
                    clear hw5
                    generalize w4.heap.size = mb at *
                    have HIN : Hid (∀ W, Below w5.heap.size w5 W → (W.cell? ⟨mb, 2, none⟩ = some x'.v ∧ W.cell? ⟨mb, 3, none⟩ = some (.bool false) ∧ W.cell? ⟨lg, 0, none⟩ = some (.slice x.ba x.bs.length x.bc) ∧ mb < W.heap.size ∧ lg < W.heap.size) ∧ Sees W x'.v x'.bs ∧ Sees W (.slice x.ba x.bs.length x.bc) x.bs ∧ Calls Try.prog 15 #[.pointer (some ⟨b, 0, none⟩)] W fun e w' => e = .returned (.int .i64 ((L2.length : Int) - 1)) ∧ w' = W) := fun W hW => by
                      have hm := boxL HJ5.out.1.2 hW
                      have hJW := HJ5.out.1.1.below hW
                      have hxk : L2[0]? = some x := by rw [HGD.out.2.1, ← HGD.out.2.2, List.getElem?_append_right (Nat.le_refl _), Nat.sub_self]; rfl
                      obtain ⟨g, e, e1, e2⟩ := row1_at hJW.row hxk
                      simp only [Option.some.injEq, Addr.mk.injEq, and_true] at e
                      subst e
                      obtain ⟨v2, ms2, n1, n2, _⟩ := hJW.net
                      have hgx := (HGD.out.1 x (List.mem_of_getElem? hxk)).se
                      refine ⟨⟨by rw [cell_of_row _ _ _ _ _ _ hm]; rfl, by rw [cell_of_row _ _ _ _ _ _ hm, ← HXX.out.2]; rfl, e2, lt_of_block hm, e1⟩, HJ5.out.2.below hW (Nat.le_refl _), hgx.below hJW.bel (Nat.le_refl _), ?_⟩
                      have := len_anyL n1
                      rw [n2.len] at this
                      rw [show ((L2.length : Int) - 1) = (((A ++ B).length : Nat) : Int) by have := HN.out; rw [List.length_append]; omega]
                      exact this
                    have S0 : (w5.drew.cell? ⟨mb, 2, none⟩ = some x'.v ∧ w5.drew.cell? ⟨mb, 3, none⟩ = some (.bool false) ∧ w5.drew.cell? ⟨lg, 0, none⟩ = some (.slice x.ba x.bs.length x.bc) ∧ mb < w5.drew.heap.size ∧ lg < w5.drew.heap.size) ∧ Below w5.heap.size w5 w5.drew := ⟨(HIN.out _ (below_drewN (Below.refl _ _) 1)).1, below_drewN (Below.refl _ _) 1⟩
                    have ew : IntKind.i64.wrap ((L2.length : Int) - 1) = (L2.length : Int) - 1 := by rw [IntKind.wrap_i64]; omega
                    refine wp_region_held_drew (S := (fun W => (W.cell? ⟨mb, 2, none⟩ = some x'.v ∧ W.cell? ⟨mb, 3, none⟩ = some (.bool false) ∧ W.cell? ⟨lg, 0, none⟩ = some (.slice x.ba x.bs.length x.bc) ∧ mb < W.heap.size ∧ lg < W.heap.size) ∧ Below w5.heap.size w5 W)) (by kernel_rfl) ?_ (fun hHeld => ?_)
                    · exact S0
                    refine wpAnyH_take (i := 0) (oi := { dst := some 115, op := Op.move (Operand.tmp 14), type := 26, pos := "law.go:234", after := #[], guard := none }) (v := ?_) rfl (by kernel_rfl) (by kernel_rfl) (by kernel_rfl) (fun _ _ _ h => h) (Or.inl ⟨by rfl, ?_⟩) (by assumption) ?_
                    rotate_left
                    · (intro w hSw; (try dsimp only at hSw); obtain ⟨⟨s2, s3, s4, s5, s6⟩, _⟩ := hSw; go_simp) <;> with_reducible rfl
                    try simp only [Act.put, List.setIfInBounds_toArray, List.set_cons_zero, List.set_cons_succ]
                    refine wpAnyH_take (i := 1) (oi := { dst := some 116, op := Op.binOp BinOp.neq 26 (Operand.tmp 115) (Operand.const (Value.int IntKind.i64 0)) 26, type := 4, pos := "law.go:234", after := #[{ on := 0, ground := Ground.data }], guard := none }) (v := ?_) rfl (by kernel_rfl) (by kernel_rfl) (by kernel_rfl) (fun _ _ _ h => h) (Or.inl ⟨by rfl, ?_⟩) (by assumption) ?_
                    rotate_left
                    · (intro w hSw; (try dsimp only at hSw); obtain ⟨⟨s2, s3, s4, s5, s6⟩, _⟩ := hSw; go_simp) <;> with_reducible rfl
                    try simp only [Act.put, List.setIfInBounds_toArray, List.set_cons_zero, List.set_cons_succ]
                    refine wpAnyH_take (i := 2) (oi := { dst := some 117, op := Op.move (Operand.tmp 116), type := 4, pos := "law.go:234", after := #[{ on := 1, ground := Ground.data }], guard := none }) (v := ?_) rfl (by kernel_rfl) (by kernel_rfl) (by kernel_rfl) (fun _ _ _ h => h) (Or.inl ⟨by rfl, ?_⟩) (by assumption) ?_
                    rotate_left
                    · (intro w hSw; (try dsimp only at hSw); obtain ⟨⟨s2, s3, s4, s5, s6⟩, _⟩ := hSw; go_simp) <;> with_reducible rfl
                    try simp only [Act.put, List.setIfInBounds_toArray, List.set_cons_zero, List.set_cons_succ]
                    refine wpAnyH_take (i := 3) (oi := { dst := some 118, op := Op.fieldAddr 38 (Operand.tmp 13) 2, type := 0, pos := "law.go:234", after := #[{ on := 2, ground := Ground.guard }], guard := some (2, false) }) (v := ?_) rfl (by kernel_rfl) (by kernel_rfl) (by kernel_rfl) (fun _ _ _ h => h) (Or.inl ⟨by rfl, ?_⟩) (by assumption) ?_
                    rotate_left
                    · (intro w hSw; (try dsimp only at hSw); obtain ⟨⟨s2, s3, s4, s5, s6⟩, _⟩ := hSw; go_simp) <;> with_reducible rfl
                    try simp only [Act.put, List.setIfInBounds_toArray, List.set_cons_zero, List.set_cons_succ]
                    refine wpAnyH_take (i := 4) (oi := { dst := some 119, op := Op.load 30 (Operand.tmp 118), type := 30, pos := "law.go:234", after := #[{ on := 3, ground := Ground.data }, { on := 2, ground := Ground.guard }], guard := some (2, false) }) (v := ?_) rfl (by kernel_rfl) (by kernel_rfl) (by kernel_rfl) (fun _ _ _ h => h) (Or.inl ⟨by rfl, ?_⟩) (by assumption) ?_
                    rotate_left
                    · (intro w hSw; (try dsimp only at hSw); obtain ⟨⟨s2, s3, s4, s5, s6⟩, _⟩ := hSw; go_simp) <;> with_reducible rfl
                    try simp only [Act.put, List.setIfInBounds_toArray, List.set_cons_zero, List.set_cons_succ]
                    refine wpAnyH_take (i := 5) (oi := { dst := some 120, op := Op.move (Operand.tmp 9), type := 44, pos := "law.go:234", after := #[{ on := 2, ground := Ground.guard }], guard := some (2, false) }) (v := ?_) rfl (by kernel_rfl) (by kernel_rfl) (by kernel_rfl) (fun _ _ _ h => h) (Or.inl ⟨by rfl, ?_⟩) (by assumption) ?_
                    rotate_left
                    · (intro w hSw; (try dsimp only at hSw); obtain ⟨⟨s2, s3, s4, s5, s6⟩, _⟩ := hSw; go_simp) <;> with_reducible rfl
                    try simp only [Act.put, List.setIfInBounds_toArray, List.set_cons_zero, List.set_cons_succ]
                    refine wpAnyH_take (i := 6) (oi := { dst := some 121, op := Op.move (Operand.tmp 12), type := 3, pos := "law.go:234", after := #[{ on := 2, ground := Ground.guard }], guard := some (2, false) }) (v := ?_) rfl (by kernel_rfl) (by kernel_rfl) (by kernel_rfl) (fun _ _ _ h => h) (Or.inl ⟨by rfl, ?_⟩) (by assumption) ?_
                    rotate_left
                    · (intro w hSw; (try dsimp only at hSw); obtain ⟨⟨s2, s3, s4, s5, s6⟩, _⟩ := hSw; go_simp) <;> with_reducible rfl
                    try simp only [Act.put, List.setIfInBounds_toArray, List.set_cons_zero, List.set_cons_succ]
                    refine wpAnyH_take (i := 7) (oi := { dst := some 122, op := Op.indexAddr 44 (Operand.tmp 120) (Operand.tmp 121), type := 0, pos := "law.go:234", after := #[{ on := 5, ground := Ground.data }, { on := 6, ground := Ground.data }, { on := 2, ground := Ground.guard }], guard := some (2, false) }) (v := ?_) rfl (by kernel_rfl) (by kernel_rfl) (by kernel_rfl) (fun _ _ _ h => h) (Or.inl ⟨by rfl, ?_⟩) (by assumption) ?_
                    rotate_left
                    · (intro w hSw; (try dsimp only at hSw); obtain ⟨⟨s2, s3, s4, s5, s6⟩, _⟩ := hSw; go_simp) <;> with_reducible rfl
                    try simp only [Act.put, List.setIfInBounds_toArray, List.set_cons_zero, List.set_cons_succ]
                    refine wpAnyH_take (i := 8) (oi := { dst := some 123, op := Op.load 30 (Operand.tmp 122), type := 30, pos := "law.go:234", after := #[{ on := 7, ground := Ground.data }, { on := 2, ground := Ground.guard }], guard := some (2, false) }) (v := ?_) rfl (by kernel_rfl) (by kernel_rfl) (by kernel_rfl) (fun _ _ _ h => h) (Or.inl ⟨by rfl, ?_⟩) (by assumption) ?_
                    rotate_left
                    · (intro w hSw; (try dsimp only at hSw); obtain ⟨⟨s2, s3, s4, s5, s6⟩, _⟩ := hSw; go_simp) <;> with_reducible rfl
                    try simp only [Act.put, List.setIfInBounds_toArray, List.set_cons_zero, List.set_cons_succ]
                    refine wpAnyH_ready (rs := [9]) (by kernel_rfl) (by simp) ?_
                    refine AllReadyH.cons (o := { dst := some 124, op := Op.call { callee := Callee.value (Operand.func 16), args := #[Operand.tmp 119, Operand.tmp 123], argTypes := #[30, 30] }, type := 4, pos := "law.go:234", after := #[{ on := 4, ground := Ground.data }, { on := 8, ground := Ground.data }, { on := 2, ground := Ground.chain }, { on := 2, ground := Ground.guard }], guard := some (2, false) }) rfl (fun K hK => ?_) AllReadyH.nil
                    go_simp
                    refine Calls.mono (eqBytes_any _ _ x'.bs x.bs _ (HIN.out _ hHeld.2).2.1 (HIN.out _ hHeld.2).2.2.1) ?_
                    rw [decide_eq_true HXX.out.1]
                    rintro _ w6 ⟨rfl, n6, e6⟩
                    have b6 : Below w5.heap.size w5 w6 := by rw [e6]; exact below_drewN hHeld.2 n6
                    clear e6 hHeld
                    refine hK.out _ _ ⟨(HIN.out _ b6).1, b6⟩ (fun hHeld => ?_)
                    clear hK K
                    refine wpAnyH_take (i := 10) (oi := { dst := some 125, op := Op.unOp UnOp.not 4 (Operand.tmp 124), type := 4, pos := "law.go:234", after := #[{ on := 9, ground := Ground.data }, { on := 2, ground := Ground.guard }], guard := some (2, false) }) (v := ?_) rfl (by kernel_rfl) (by kernel_rfl) (by kernel_rfl) (fun _ _ _ h => h) (Or.inl ⟨by rfl, ?_⟩) (by assumption) ?_
                    rotate_left
                    · (intro w hSw; (try dsimp only at hSw); obtain ⟨⟨s2, s3, s4, s5, s6⟩, _⟩ := hSw; go_simp) <;> with_reducible rfl
                    try simp only [Act.put, List.setIfInBounds_toArray, List.set_cons_zero, List.set_cons_succ]
                    refine wpAnyH_take (i := 11) (oi := { dst := some 126, op := Op.pick (Operand.tmp 117) (Operand.const (Value.bool true)) (Operand.tmp 125), type := 4, pos := "law.go:234", after := #[{ on := 2, ground := Ground.data }, { on := 10, ground := Ground.data }], guard := none }) (v := ?_) rfl (by kernel_rfl) (by kernel_rfl) (by kernel_rfl) (fun _ _ _ h => h) (Or.inl ⟨by rfl, ?_⟩) (by assumption) ?_
                    rotate_left
                    · (intro w hSw; (try dsimp only at hSw); obtain ⟨⟨s2, s3, s4, s5, s6⟩, _⟩ := hSw; go_simp) <;> with_reducible rfl
                    try simp only [Act.put, List.setIfInBounds_toArray, List.set_cons_zero, List.set_cons_succ]
                    refine wpAnyH_take (i := 12) (oi := { dst := some 127, op := Op.move (Operand.tmp 126), type := 4, pos := "law.go:234", after := #[{ on := 11, ground := Ground.data }, { on := 9, ground := Ground.chain }], guard := none }) (v := ?_) rfl (by kernel_rfl) (by kernel_rfl) (by kernel_rfl) (fun _ _ _ h => h) (Or.inl ⟨by rfl, ?_⟩) (by assumption) ?_
                    rotate_left
                    · (intro w hSw; (try dsimp only at hSw); obtain ⟨⟨s2, s3, s4, s5, s6⟩, _⟩ := hSw; go_simp) <;> with_reducible rfl
                    try simp only [Act.put, List.setIfInBounds_toArray, List.set_cons_zero, List.set_cons_succ]
                    refine wpAnyH_take (i := 13) (oi := { dst := some 128, op := Op.fieldAddr 38 (Operand.tmp 13) 3, type := 0, pos := "law.go:234", after := #[{ on := 12, ground := Ground.guard }], guard := some (12, false) }) (v := ?_) rfl (by kernel_rfl) (by kernel_rfl) (by kernel_rfl) (fun _ _ _ h => h) (Or.inl ⟨by rfl, ?_⟩) (by assumption) ?_
                    rotate_left
                    · (intro w hSw; (try dsimp only at hSw); obtain ⟨⟨s2, s3, s4, s5, s6⟩, _⟩ := hSw; go_simp) <;> with_reducible rfl
                    try simp only [Act.put, List.setIfInBounds_toArray, List.set_cons_zero, List.set_cons_succ]
                    refine wpAnyH_take (i := 14) (oi := { dst := some 129, op := Op.load 4 (Operand.tmp 128), type := 4, pos := "law.go:234", after := #[{ on := 13, ground := Ground.data }, { on := 12, ground := Ground.guard }], guard := some (12, false) }) (v := ?_) rfl (by kernel_rfl) (by kernel_rfl) (by kernel_rfl) (fun _ _ _ h => h) (Or.inl ⟨by rfl, ?_⟩) (by assumption) ?_
                    rotate_left
                    · (intro w hSw; (try dsimp only at hSw); obtain ⟨⟨s2, s3, s4, s5, s6⟩, _⟩ := hSw; go_simp) <;> with_reducible rfl
                    try simp only [Act.put, List.setIfInBounds_toArray, List.set_cons_zero, List.set_cons_succ]
                    refine wpAnyH_take (i := 15) (oi := { dst := some 130, op := Op.pick (Operand.tmp 127) (Operand.const (Value.bool true)) (Operand.tmp 129), type := 4, pos := "law.go:234", after := #[{ on := 12, ground := Ground.data }, { on := 14, ground := Ground.data }], guard := none }) (v := ?_) rfl (by kernel_rfl) (by kernel_rfl) (by kernel_rfl) (fun _ _ _ h => h) (Or.inl ⟨by rfl, ?_⟩) (by assumption) ?_
                    rotate_left
                    · (intro w hSw; (try dsimp only at hSw); obtain ⟨⟨s2, s3, s4, s5, s6⟩, _⟩ := hSw; go_simp) <;> with_reducible rfl
                    try simp only [Act.put, List.setIfInBounds_toArray, List.set_cons_zero, List.set_cons_succ]
                    refine wpAnyH_take (i := 16) (oi := { dst := some 131, op := Op.move (Operand.tmp 130), type := 4, pos := "law.go:234", after := #[{ on := 15, ground := Ground.data }, { on := 12, ground := Ground.chain }], guard := none }) (v := ?_) rfl (by kernel_rfl) (by kernel_rfl) (by kernel_rfl) (fun _ _ _ h => h) (Or.inl ⟨by rfl, ?_⟩) (by assumption) ?_
                    rotate_left
                    · (intro w hSw; (try dsimp only at hSw); obtain ⟨⟨s2, s3, s4, s5, s6⟩, _⟩ := hSw; go_simp) <;> with_reducible rfl
                    try simp only [Act.put, List.setIfInBounds_toArray, List.set_cons_zero, List.set_cons_succ]
                    refine wpAnyH_take (i := 17) (oi := { dst := some 132, op := Op.move (Operand.tmp 7), type := 25, pos := "law.go:234", after := #[{ on := 16, ground := Ground.guard }], guard := some (16, false) }) (v := ?_) rfl (by kernel_rfl) (by kernel_rfl) (by kernel_rfl) (fun _ _ _ h => h) (Or.inl ⟨by rfl, ?_⟩) (by assumption) ?_
                    rotate_left
                    · (intro w hSw; (try dsimp only at hSw); obtain ⟨⟨s2, s3, s4, s5, s6⟩, _⟩ := hSw; go_simp) <;> with_reducible rfl
                    try simp only [Act.put, List.setIfInBounds_toArray, List.set_cons_zero, List.set_cons_succ]
                    refine wpAnyH_take (i := 19) (oi := { dst := some 134, op := Op.move (Operand.tmp 9), type := 44, pos := "law.go:234", after := #[{ on := 16, ground := Ground.guard }], guard := some (16, false) }) (v := ?_) rfl (by kernel_rfl) (by kernel_rfl) (by kernel_rfl) (fun _ _ _ h => h) (Or.inl ⟨by rfl, ?_⟩) (by assumption) ?_
                    rotate_left
                    · (intro w hSw; (try dsimp only at hSw); obtain ⟨⟨s2, s3, s4, s5, s6⟩, _⟩ := hSw; go_simp) <;> with_reducible rfl
                    try simp only [Act.put, List.setIfInBounds_toArray, List.set_cons_zero, List.set_cons_succ]
                    refine wpAnyH_take (i := 20) (oi := { dst := some 135, op := Op.call { callee := Callee.builtin Builtin.len, args := #[Operand.tmp 134], argTypes := #[44] }, type := 3, pos := "law.go:234", after := #[{ on := 19, ground := Ground.data }, { on := 16, ground := Ground.guard }], guard := some (16, false) }) (v := ?_) rfl (by kernel_rfl) (by kernel_rfl) (by kernel_rfl) (fun _ _ _ h => h) (Or.inl ⟨by rfl, ?_⟩) (by assumption) ?_
                    rotate_left
                    · (intro w hSw; (try dsimp only at hSw); obtain ⟨⟨s2, s3, s4, s5, s6⟩, _⟩ := hSw; go_simp) <;> with_reducible rfl
                    try simp only [Act.put, List.setIfInBounds_toArray, List.set_cons_zero, List.set_cons_succ]
                    refine wpAnyH_take (i := 21) (oi := { dst := some 136, op := Op.binOp BinOp.sub 3 (Operand.tmp 135) (Operand.const (Value.int IntKind.i64 1)) 3, type := 3, pos := "law.go:234", after := #[{ on := 20, ground := Ground.data }, { on := 16, ground := Ground.guard }], guard := some (16, false) }) (v := ?_) rfl (by kernel_rfl) (by kernel_rfl) (by kernel_rfl) (fun _ _ _ h => h) (Or.inl ⟨by rfl, ?_⟩) (by assumption) ?_
                    rotate_left
                    · (intro w hSw; (try dsimp only at hSw); obtain ⟨⟨s2, s3, s4, s5, s6⟩, _⟩ := hSw; go_simp) <;> with_reducible rfl
                    try simp only [Act.put, List.setIfInBounds_toArray, List.set_cons_zero, List.set_cons_succ]
                    refine wpAnyH_ready (rs := [18]) (by kernel_rfl) (by simp) ?_
                    refine AllReadyH.cons (o := { dst := some 133, op := Op.call { callee := Callee.value (Operand.func 15), args := #[Operand.tmp 132], argTypes := #[25] }, type := 3, pos := "law.go:234", after := #[{ on := 17, ground := Ground.data }, { on := 16, ground := Ground.chain }, { on := 16, ground := Ground.guard }], guard := some (16, false) }) rfl (fun K hK => ?_) AllReadyH.nil
                    go_simp
                    refine Calls.mono (HIN.out _ hHeld.2).2.2.2 ?_
                    rintro _ w7 ⟨rfl, rfl⟩
                    refine hK.out _ _ hHeld (fun hHeld => ?_)
                    clear hK K
                    refine wpAnyH_take (i := 22) (oi := { dst := some 137, op := Op.binOp BinOp.neq 3 (Operand.tmp 133) (Operand.tmp 136) 3, type := 4, pos := "law.go:234", after := #[{ on := 18, ground := Ground.data }, { on := 21, ground := Ground.data }, { on := 16, ground := Ground.guard }], guard := some (16, false) }) (v := ?_) rfl (by kernel_rfl) (by kernel_rfl) (by kernel_rfl) (fun _ _ _ h => h) (Or.inl ⟨by rfl, ?_⟩) (by assumption) ?_
                    rotate_left
                    · (intro w hSw; (try dsimp only at hSw); obtain ⟨⟨s2, s3, s4, s5, s6⟩, _⟩ := hSw; go_simp) <;> with_reducible rfl
                    try simp only [Act.put, List.setIfInBounds_toArray, List.set_cons_zero, List.set_cons_succ]
                    refine wpAnyH_take (i := 23) (oi := { dst := some 138, op := Op.pick (Operand.tmp 131) (Operand.const (Value.bool true)) (Operand.tmp 137), type := 4, pos := "law.go:234", after := #[{ on := 16, ground := Ground.data }, { on := 22, ground := Ground.data }], guard := none }) (v := ?_) rfl (by kernel_rfl) (by kernel_rfl) (by kernel_rfl) (fun _ _ _ h => h) (Or.inl ⟨by rfl, ?_⟩) (by assumption) ?_
                    rotate_left
                    · (intro w hSw; (try dsimp only at hSw); obtain ⟨⟨s2, s3, s4, s5, s6⟩, _⟩ := hSw; go_simp) <;> with_reducible rfl
                    try simp only [Act.put, List.setIfInBounds_toArray, List.set_cons_zero, List.set_cons_succ]
                    refine wpAnyH_done (by kernel_rfl) ?_ _
                    have H7 : Hid (Below w5.heap.size w5 w7) := hHeld.2
                    clear hHeld S0
                    go_wp2_with fail
                    go_loopw [15, 16] (fun vr vj wq => ∃ (j : Nat) (R : List BbT) (ra : Option Addr) (rc : Nat), j ≤ L2.length ∧ vj = .int .i64 (j : Int) ∧ vr = .slice ra R.length rc ∧ Hid (R = restL A B j ∧ Below w7.heap.size w7 wq ∧ wq.ownsRow w7.heap.size 30 1 (.slice ra R.length rc) R.length (R.map BbT.v))) (fun _ vj _ => L2.length - (intOf vj).toNat)
                    case atStart => exact ⟨0, [], none, 0, by omega, rfl, rfl, (restL_zero A B).symm, Below.refl _ _, World.ownsRow_nil _ _ _ _⟩
                    case round =>
                      obtain ⟨j, R, ra, rc, hj, rfl, rfl, HR⟩ := hrel
                      rename World => wq
                      have HJQ : Hid (OnI w wq b (.slice (some ⟨lg, 0, none⟩) L2.length sc2) L2 (A ++ B)) := HJ5.out.1.1.below (H7.out.trans (HR.out.2.1.mono H7.out.size))
                      by_cases hjl : j < L2.length
                      · have hd3 : decide ((j : Int) < (L2.length : Int)) = true := decide_eq_true (by omega)
                        obtain ⟨o', ho'⟩ : ∃ o', L2[j]? = some o' := ⟨_, List.getElem?_eq_getElem hjl⟩
                        obtain ⟨g, e, hz, q0⟩ := row1_at HJQ.out.row ho'
                        simp only [Option.some.injEq, Addr.mk.injEq, and_true] at e
                        subst e
                        by_cases hjk : j = 0
                        · have dq : ((j : Int) == 0) = true := by simp; omega
                          have HR2 : Hid (R = restL A B (j + 1)) := by
                            show R = _
                            rw [HR.out.1, hjk, ← HGD.out.2.2, restL_skip]
                          go_wp2_with fail
                          go_roundw
                          case rel => exact ⟨j + 1, R, ra, rc, by omega, by simp <;> omega, rfl, HR2.out, HR.out.2.1, HR.out.2.2⟩
                          case measure => simp [intOf]; omega
                        · have dq : ((j : Int) == 0) = false := by simp; omega
                          have HR2 : Hid (R ++ [o'] = restL A B (j + 1)) := by
                            show _ = _
                            rw [HR.out.1]
                            exact (restL_next (x := x) (by rw [← HGD.out.2.1]; exact ho') (by rw [HGD.out.2.2]; exact hjk)).symm
                          have hRl : R.length ≤ j := by rw [HR.out.1]; exact restL_len A B j
                          have bq := oneL wq (.cells #[.slice o'.ba o'.bs.length o'.bc] 30)
                          obtain ⟨sv8, w8, hr, ho8, hk8⟩ := app_bb (x := o') (rowKl HR.out.2.2 (Below.kept bq) (fun g hg => by have := (HR.out.2.2.lt g hg).2; omega)) (heap_alloc_new wq (.cells #[.slice o'.ba o'.bs.length o'.bc] 30)) (by omega) (Nat.le_trans HR.out.2.1.size bq.size)
                          obtain ⟨a8, c8, rfl⟩ := rowSl ho8
                          have HR8 : Hid (Below w7.heap.size w7 w8 ∧ w8.ownsRow w7.heap.size 30 1 (.slice a8 (R ++ [o']).length c8) (R ++ [o']).length ((R ++ [o']).map BbT.v)) := by
                            refine ⟨(HR.out.2.1.trans (bq.mono HR.out.2.1.size)).trans (hk8.below (Nat.le_trans HR.out.2.1.size bq.size) (fun k e => (HR.out.2.2.lt k e).1)), ho8⟩
                          clear bq ho8 hk8 ho'
                          go_wp2_with (at_builtin; refine wpList_appL _ rfl _ _ 44 rfl _ _ rfl rfl (hr _) ?_)
                          clear hr
                          go_roundw
                          case rel => exact ⟨j + 1, R ++ [o'], a8, c8, by omega, by simp, by first | rfl | simp, HR2.out, HR8.out.1, HR8.out.2⟩
                          case measure => simp [intOf]; omega
                      · have hd3 : decide ((j : Int) < (L2.length : Int)) = false := decide_eq_false (by omega)
                        obtain rfl : R = A ++ B := by
                          rw [HR.out.1, show j = L2.length by omega, HGD.out.2.1, restL_all]
                        have HJN : Hid (OnI w wq b (.slice ra (A ++ B).length rc) (A ++ B) (A ++ B) ∧ ∀ t ∈ A ++ B, GoodBb w t) := by
                          refine ⟨⟨HJQ.out.bel, HJQ.out.net, row_lowerl HR.out.2.2 (Nat.le_trans HJ5.out.1.1.bel.size H7.out.size)⟩, fun t ht => HGD.out.1 t ?_⟩
                          rw [HGD.out.2.1]
                          rcases List.mem_append.1 ht with ht | ht
                          · exact List.mem_append_left _ ht
                          · exact List.mem_append_right _ (List.mem_cons_of_mem _ ht)
                        clear HJQ HR
                        go_wp2_with fail
                        go_roundw
                        case rel => exact ⟨i2 + 1, A ++ B, ra, rc, by first | rfl | simp, by simp, by have := HN.out; simp; omega, HJN.out⟩
                        case measure => (have := HN.out; simp [lenS]; omega)
                · have hd1 : decide ((i2 : Int) < (ps.length : Int)) = false := decide_eq_false (by omega)
                  have hkl : 0 < L2.length := hL
                  go_wp2_with fail
                  clear hd1 h1
                  obtain ⟨A, x, B, hLL, hA⟩ := split_at (l := L2) (p := 0) hkl
                  obtain ⟨nv, ms, hn1, hn2, hn4⟩ := HJ.out.1.net
                  rw [hLL] at hn2
                  obtain ⟨A', x', B', hms, hA', hxx, hab⟩ := hn2.split
                  have hnl := hn2.len
                  subst hms
                  have HN : Hid (L2.length = A.length + B.length + 1) := by show L2.length = _; rw [hLL]; simp; omega
                  obtain ⟨lg, rfl⟩ : ∃ lg, sa2 = some ⟨lg, 0, none⟩ := by
                    obtain ⟨g, e, _⟩ := row1_at HJ.out.1.row (j := 0) (o := x) (by rw [hLL, ← hA, List.getElem?_append_right (Nat.le_refl _), Nat.sub_self]; rfl)
                    exact ⟨g, e⟩
                  have HD : Hid (Calls Try.prog 13 #[.pointer (some ⟨b, 0, none⟩), .int .i64 0] wr fun e w' => e = .returned (.tuple #[.agg x'.cs.toArray, .int .i64 0]) ∧ ∃ v', Nt w' b 3 v' (A' ++ B') ∧ Kept wr w' (fun k => k = b ∨ nv.ownBlock = some k) ∧ v'.ownBlock = nv.ownBlock ∧ MsOk w' x') := by
                    have := take_yes hn1 (by rw [hnl, List.length_append, List.length_cons]; have := HN.out; omega)
                    rw [hA', hA] at this
                    exact this
                  have HTK : Hid (∀ w' v', Nt w' b 3 v' (A' ++ B') → Kept wr w' (fun k => k = b ∨ nv.ownBlock = some k) → v'.ownBlock = nv.ownBlock → OnI w w' b (.slice (some ⟨lg, 0, none⟩) L2.length sc2) L2 (A ++ B)) := fun w' v' e1 e2 e3 => HJ.out.1.take hn1 hn4 hab e1 e2 e3
                  have HGD : Hid ((∀ t ∈ L2, GoodBb w t) ∧ L2 = A ++ x :: B ∧ A.length = 0) := ⟨HJ.out.2, hLL, hA⟩
                  have HXX : Hid (x'.bs = x.bs ∧ x'.sp = false) := hxx
                  have HLAB : Hid ((A' ++ B').length = (A ++ B).length) := hab.len
                  clear hn1 hn2 hn4 hnl hab HJ hLL hA hA' hxx
                  refine Calls.mono HD.out ?_
                  rintro _ w4 ⟨rfl, nv', g1, g2, g3, g4⟩
                  obtain ⟨w5, hw5⟩ : ∃ w5, w5 = w4.alloc (.cells x'.cs.toArray 38) := ⟨_, rfl⟩
                  have HJ5 : Hid ((OnI w w5 b (.slice (some ⟨lg, 0, none⟩) L2.length sc2) L2 (A ++ B) ∧ w5.heap[w4.heap.size]? = some (.cells x'.cs.toArray 38 (0, 0))) ∧ Sees w5 x'.v x'.bs) := by
                    rw [hw5]
                    exact ⟨⟨(HTK.out w4 nv' g1 g2 g3).below (oneL w4 _), heap_alloc_new w4 _⟩, g4.sees.below (oneL w4 _) (Nat.le_refl _)⟩
                  clear g1 g2 g3 g4 HD HTK
                  go_upto_region 25 with fail
                  rw [← hw5]
                  clear hw5
                  generalize w4.heap.size = mb at *
                  have HIN : Hid (∀ W, Below w5.heap.size w5 W → (W.cell? ⟨mb, 2, none⟩ = some x'.v ∧ W.cell? ⟨mb, 3, none⟩ = some (.bool false) ∧ W.cell? ⟨lg, 0, none⟩ = some (.slice x.ba x.bs.length x.bc) ∧ mb < W.heap.size ∧ lg < W.heap.size) ∧ Sees W x'.v x'.bs ∧ Sees W (.slice x.ba x.bs.length x.bc) x.bs ∧ Calls Try.prog 15 #[.pointer (some ⟨b, 0, none⟩)] W fun e w' => e = .returned (.int .i64 ((L2.length : Int) - 1)) ∧ w' = W) := fun W hW => by
                    have hm := boxL HJ5.out.1.2 hW
                    have hJW := HJ5.out.1.1.below hW
                    have hxk : L2[0]? = some x := by rw [HGD.out.2.1, ← HGD.out.2.2, List.getElem?_append_right (Nat.le_refl _), Nat.sub_self]; rfl
                    obtain ⟨g, e, e1, e2⟩ := row1_at hJW.row hxk
                    simp only [Option.some.injEq, Addr.mk.injEq, and_true] at e
                    subst e
                    obtain ⟨v2, ms2, n1, n2, _⟩ := hJW.net
                    have hgx := (HGD.out.1 x (List.mem_of_getElem? hxk)).se
                    refine ⟨⟨by rw [cell_of_row _ _ _ _ _ _ hm]; rfl, by rw [cell_of_row _ _ _ _ _ _ hm, ← HXX.out.2]; rfl, e2, lt_of_block hm, e1⟩, HJ5.out.2.below hW (Nat.le_refl _), hgx.below hJW.bel (Nat.le_refl _), ?_⟩
                    have := len_anyL n1
                    rw [n2.len] at this
                    rw [show ((L2.length : Int) - 1) = (((A ++ B).length : Nat) : Int) by have := HN.out; rw [List.length_append]; omega]
                    exact this
                  have S0 : (w5.drew.cell? ⟨mb, 2, none⟩ = some x'.v ∧ w5.drew.cell? ⟨mb, 3, none⟩ = some (.bool false) ∧ w5.drew.cell? ⟨lg, 0, none⟩ = some (.slice x.ba x.bs.length x.bc) ∧ mb < w5.drew.heap.size ∧ lg < w5.drew.heap.size) ∧ Below w5.heap.size w5 w5.drew := ⟨(HIN.out _ (below_drewN (Below.refl _ _) 1)).1, below_drewN (Below.refl _ _) 1⟩
                  have ew : IntKind.i64.wrap ((L2.length : Int) - 1) = (L2.length : Int) - 1 := by rw [IntKind.wrap_i64]; omega
                  refine wp_region_held_drew (S := (fun W => (W.cell? ⟨mb, 2, none⟩ = some x'.v ∧ W.cell? ⟨mb, 3, none⟩ = some (.bool false) ∧ W.cell? ⟨lg, 0, none⟩ = some (.slice x.ba x.bs.length x.bc) ∧ mb < W.heap.size ∧ lg < W.heap.size) ∧ Below w5.heap.size w5 W)) (by kernel_rfl) ?_ (fun hHeld => ?_)
                  · exact S0
                  refine wpAnyH_take (i := 0) (oi := { dst := some 115, op := Op.move (Operand.tmp 14), type := 26, pos := "law.go:234", after := #[], guard := none }) (v := ?_) rfl (by kernel_rfl) (by kernel_rfl) (by kernel_rfl) (fun _ _ _ h => h) (Or.inl ⟨by rfl, ?_⟩) (by assumption) ?_
                  rotate_left
                  · (intro w hSw; (try dsimp only at hSw); obtain ⟨⟨s2, s3, s4, s5, s6⟩, _⟩ := hSw; go_simp) <;> with_reducible rfl
                  try simp only [Act.put, List.setIfInBounds_toArray, List.set_cons_zero, List.set_cons_succ]
                  refine wpAnyH_take (i := 1) (oi := { dst := some 116, op := Op.binOp BinOp.neq 26 (Operand.tmp 115) (Operand.const (Value.int IntKind.i64 0)) 26, type := 4, pos := "law.go:234", after := #[{ on := 0, ground := Ground.data }], guard := none }) (v := ?_) rfl (by kernel_rfl) (by kernel_rfl) (by kernel_rfl) (fun _ _ _ h => h) (Or.inl ⟨by rfl, ?_⟩) (by assumption) ?_
                  rotate_left
                  · (intro w hSw; (try dsimp only at hSw); obtain ⟨⟨s2, s3, s4, s5, s6⟩, _⟩ := hSw; go_simp) <;> with_reducible rfl
                  try simp only [Act.put, List.setIfInBounds_toArray, List.set_cons_zero, List.set_cons_succ]
                  refine wpAnyH_take (i := 2) (oi := { dst := some 117, op := Op.move (Operand.tmp 116), type := 4, pos := "law.go:234", after := #[{ on := 1, ground := Ground.data }], guard := none }) (v := ?_) rfl (by kernel_rfl) (by kernel_rfl) (by kernel_rfl) (fun _ _ _ h => h) (Or.inl ⟨by rfl, ?_⟩) (by assumption) ?_
                  rotate_left
                  · (intro w hSw; (try dsimp only at hSw); obtain ⟨⟨s2, s3, s4, s5, s6⟩, _⟩ := hSw; go_simp) <;> with_reducible rfl
                  try simp only [Act.put, List.setIfInBounds_toArray, List.set_cons_zero, List.set_cons_succ]
                  refine wpAnyH_take (i := 3) (oi := { dst := some 118, op := Op.fieldAddr 38 (Operand.tmp 13) 2, type := 0, pos := "law.go:234", after := #[{ on := 2, ground := Ground.guard }], guard := some (2, false) }) (v := ?_) rfl (by kernel_rfl) (by kernel_rfl) (by kernel_rfl) (fun _ _ _ h => h) (Or.inl ⟨by rfl, ?_⟩) (by assumption) ?_
                  rotate_left
                  · (intro w hSw; (try dsimp only at hSw); obtain ⟨⟨s2, s3, s4, s5, s6⟩, _⟩ := hSw; go_simp) <;> with_reducible rfl
                  try simp only [Act.put, List.setIfInBounds_toArray, List.set_cons_zero, List.set_cons_succ]
                  refine wpAnyH_take (i := 4) (oi := { dst := some 119, op := Op.load 30 (Operand.tmp 118), type := 30, pos := "law.go:234", after := #[{ on := 3, ground := Ground.data }, { on := 2, ground := Ground.guard }], guard := some (2, false) }) (v := ?_) rfl (by kernel_rfl) (by kernel_rfl) (by kernel_rfl) (fun _ _ _ h => h) (Or.inl ⟨by rfl, ?_⟩) (by assumption) ?_
                  rotate_left
                  · (intro w hSw; (try dsimp only at hSw); obtain ⟨⟨s2, s3, s4, s5, s6⟩, _⟩ := hSw; go_simp) <;> with_reducible rfl
                  try simp only [Act.put, List.setIfInBounds_toArray, List.set_cons_zero, List.set_cons_succ]
                  refine wpAnyH_take (i := 5) (oi := { dst := some 120, op := Op.move (Operand.tmp 9), type := 44, pos := "law.go:234", after := #[{ on := 2, ground := Ground.guard }], guard := some (2, false) }) (v := ?_) rfl (by kernel_rfl) (by kernel_rfl) (by kernel_rfl) (fun _ _ _ h => h) (Or.inl ⟨by rfl, ?_⟩) (by assumption) ?_
                  rotate_left
                  · (intro w hSw; (try dsimp only at hSw); obtain ⟨⟨s2, s3, s4, s5, s6⟩, _⟩ := hSw; go_simp) <;> with_reducible rfl
                  try simp only [Act.put, List.setIfInBounds_toArray, List.set_cons_zero, List.set_cons_succ]
                  refine wpAnyH_take (i := 6) (oi := { dst := some 121, op := Op.move (Operand.tmp 12), type := 3, pos := "law.go:234", after := #[{ on := 2, ground := Ground.guard }], guard := some (2, false) }) (v := ?_) rfl (by kernel_rfl) (by kernel_rfl) (by kernel_rfl) (fun _ _ _ h => h) (Or.inl ⟨by rfl, ?_⟩) (by assumption) ?_
                  rotate_left
                  · (intro w hSw; (try dsimp only at hSw); obtain ⟨⟨s2, s3, s4, s5, s6⟩, _⟩ := hSw; go_simp) <;> with_reducible rfl
                  try simp only [Act.put, List.setIfInBounds_toArray, List.set_cons_zero, List.set_cons_succ]
                  refine wpAnyH_take (i := 7) (oi := { dst := some 122, op := Op.indexAddr 44 (Operand.tmp 120) (Operand.tmp 121), type := 0, pos := "law.go:234", after := #[{ on := 5, ground := Ground.data }, { on := 6, ground := Ground.data }, { on := 2, ground := Ground.guard }], guard := some (2, false) }) (v := ?_) rfl (by kernel_rfl) (by kernel_rfl) (by kernel_rfl) (fun _ _ _ h => h) (Or.inl ⟨by rfl, ?_⟩) (by assumption) ?_
                  rotate_left
                  · (intro w hSw; (try dsimp only at hSw); obtain ⟨⟨s2, s3, s4, s5, s6⟩, _⟩ := hSw; go_simp) <;> with_reducible rfl
                  try simp only [Act.put, List.setIfInBounds_toArray, List.set_cons_zero, List.set_cons_succ]
                  refine wpAnyH_take (i := 8) (oi := { dst := some 123, op := Op.load 30 (Operand.tmp 122), type := 30, pos := "law.go:234", after := #[{ on := 7, ground := Ground.data }, { on := 2, ground := Ground.guard }], guard := some (2, false) }) (v := ?_) rfl (by kernel_rfl) (by kernel_rfl) (by kernel_rfl) (fun _ _ _ h => h) (Or.inl ⟨by rfl, ?_⟩) (by assumption) ?_
                  rotate_left
                  · (intro w hSw; (try dsimp only at hSw); obtain ⟨⟨s2, s3, s4, s5, s6⟩, _⟩ := hSw; go_simp) <;> with_reducible rfl
                  try simp only [Act.put, List.setIfInBounds_toArray, List.set_cons_zero, List.set_cons_succ]
                  refine wpAnyH_ready (rs := [9]) (by kernel_rfl) (by simp) ?_
                  refine AllReadyH.cons (o := { dst := some 124, op := Op.call { callee := Callee.value (Operand.func 16), args := #[Operand.tmp 119, Operand.tmp 123], argTypes := #[30, 30] }, type := 4, pos := "law.go:234", after := #[{ on := 4, ground := Ground.data }, { on := 8, ground := Ground.data }, { on := 2, ground := Ground.chain }, { on := 2, ground := Ground.guard }], guard := some (2, false) }) rfl (fun K hK => ?_) AllReadyH.nil
                  go_simp
                  refine Calls.mono (eqBytes_any _ _ x'.bs x.bs _ (HIN.out _ hHeld.2).2.1 (HIN.out _ hHeld.2).2.2.1) ?_
                  rw [decide_eq_true HXX.out.1]
                  rintro _ w6 ⟨rfl, n6, e6⟩
                  have b6 : Below w5.heap.size w5 w6 := by rw [e6]; exact below_drewN hHeld.2 n6
                  clear e6 hHeld
                  refine hK.out _ _ ⟨(HIN.out _ b6).1, b6⟩ (fun hHeld => ?_)
                  clear hK K
                  refine wpAnyH_take (i := 10) (oi := { dst := some 125, op := Op.unOp UnOp.not 4 (Operand.tmp 124), type := 4, pos := "law.go:234", after := #[{ on := 9, ground := Ground.data }, { on := 2, ground := Ground.guard }], guard := some (2, false) }) (v := ?_) rfl (by kernel_rfl) (by kernel_rfl) (by kernel_rfl) (fun _ _ _ h => h) (Or.inl ⟨by rfl, ?_⟩) (by assumption) ?_
                  rotate_left
                  · (intro w hSw; (try dsimp only at hSw); obtain ⟨⟨s2, s3, s4, s5, s6⟩, _⟩ := hSw; go_simp) <;> with_reducible rfl
                  try simp only [Act.put, List.setIfInBounds_toArray, List.set_cons_zero, List.set_cons_succ]
                  refine wpAnyH_take (i := 11) (oi := { dst := some 126, op := Op.pick (Operand.tmp 117) (Operand.const (Value.bool true)) (Operand.tmp 125), type := 4, pos := "law.go:234", after := #[{ on := 2, ground := Ground.data }, { on := 10, ground := Ground.data }], guard := none }) (v := ?_) rfl (by kernel_rfl) (by kernel_rfl) (by kernel_rfl) (fun _ _ _ h => h) (Or.inl ⟨by rfl, ?_⟩) (by assumption) ?_
                  rotate_left
                  · (intro w hSw; (try dsimp only at hSw); obtain ⟨⟨s2, s3, s4, s5, s6⟩, _⟩ := hSw; go_simp) <;> with_reducible rfl
                  try simp only [Act.put, List.setIfInBounds_toArray, List.set_cons_zero, List.set_cons_succ]
                  refine wpAnyH_take (i := 12) (oi := { dst := some 127, op := Op.move (Operand.tmp 126), type := 4, pos := "law.go:234", after := #[{ on := 11, ground := Ground.data }, { on := 9, ground := Ground.chain }], guard := none }) (v := ?_) rfl (by kernel_rfl) (by kernel_rfl) (by kernel_rfl) (fun _ _ _ h => h) (Or.inl ⟨by rfl, ?_⟩) (by assumption) ?_
                  rotate_left
                  · (intro w hSw; (try dsimp only at hSw); obtain ⟨⟨s2, s3, s4, s5, s6⟩, _⟩ := hSw; go_simp) <;> with_reducible rfl
                  try simp only [Act.put, List.setIfInBounds_toArray, List.set_cons_zero, List.set_cons_succ]
                  refine wpAnyH_take (i := 13) (oi := { dst := some 128, op := Op.fieldAddr 38 (Operand.tmp 13) 3, type := 0, pos := "law.go:234", after := #[{ on := 12, ground := Ground.guard }], guard := some (12, false) }) (v := ?_) rfl (by kernel_rfl) (by kernel_rfl) (by kernel_rfl) (fun _ _ _ h => h) (Or.inl ⟨by rfl, ?_⟩) (by assumption) ?_
                  rotate_left
                  · (intro w hSw; (try dsimp only at hSw); obtain ⟨⟨s2, s3, s4, s5, s6⟩, _⟩ := hSw; go_simp) <;> with_reducible rfl
                  try simp only [Act.put, List.setIfInBounds_toArray, List.set_cons_zero, List.set_cons_succ]
                  refine wpAnyH_take (i := 14) (oi := { dst := some 129, op := Op.load 4 (Operand.tmp 128), type := 4, pos := "law.go:234", after := #[{ on := 13, ground := Ground.data }, { on := 12, ground := Ground.guard }], guard := some (12, false) }) (v := ?_) rfl (by kernel_rfl) (by kernel_rfl) (by kernel_rfl) (fun _ _ _ h => h) (Or.inl ⟨by rfl, ?_⟩) (by assumption) ?_
                  rotate_left
                  · (intro w hSw; (try dsimp only at hSw); obtain ⟨⟨s2, s3, s4, s5, s6⟩, _⟩ := hSw; go_simp) <;> with_reducible rfl
                  try simp only [Act.put, List.setIfInBounds_toArray, List.set_cons_zero, List.set_cons_succ]
                  refine wpAnyH_take (i := 15) (oi := { dst := some 130, op := Op.pick (Operand.tmp 127) (Operand.const (Value.bool true)) (Operand.tmp 129), type := 4, pos := "law.go:234", after := #[{ on := 12, ground := Ground.data }, { on := 14, ground := Ground.data }], guard := none }) (v := ?_) rfl (by kernel_rfl) (by kernel_rfl) (by kernel_rfl) (fun _ _ _ h => h) (Or.inl ⟨by rfl, ?_⟩) (by assumption) ?_
                  rotate_left
                  · (intro w hSw; (try dsimp only at hSw); obtain ⟨⟨s2, s3, s4, s5, s6⟩, _⟩ := hSw; go_simp) <;> with_reducible rfl
                  try simp only [Act.put, List.setIfInBounds_toArray, List.set_cons_zero, List.set_cons_succ]
                  refine wpAnyH_take (i := 16) (oi := { dst := some 131, op := Op.move (Operand.tmp 130), type := 4, pos := "law.go:234", after := #[{ on := 15, ground := Ground.data }, { on := 12, ground := Ground.chain }], guard := none }) (v := ?_) rfl (by kernel_rfl) (by kernel_rfl) (by kernel_rfl) (fun _ _ _ h => h) (Or.inl ⟨by rfl, ?_⟩) (by assumption) ?_
                  rotate_left
                  · (intro w hSw; (try dsimp only at hSw); obtain ⟨⟨s2, s3, s4, s5, s6⟩, _⟩ := hSw; go_simp) <;> with_reducible rfl
                  try simp only [Act.put, List.setIfInBounds_toArray, List.set_cons_zero, List.set_cons_succ]
                  refine wpAnyH_take (i := 17) (oi := { dst := some 132, op := Op.move (Operand.tmp 7), type := 25, pos := "law.go:234", after := #[{ on := 16, ground := Ground.guard }], guard := some (16, false) }) (v := ?_) rfl (by kernel_rfl) (by kernel_rfl) (by kernel_rfl) (fun _ _ _ h => h) (Or.inl ⟨by rfl, ?_⟩) (by assumption) ?_
                  rotate_left
                  · (intro w hSw; (try dsimp only at hSw); obtain ⟨⟨s2, s3, s4, s5, s6⟩, _⟩ := hSw; go_simp) <;> with_reducible rfl
                  try simp only [Act.put, List.setIfInBounds_toArray, List.set_cons_zero, List.set_cons_succ]
                  refine wpAnyH_take (i := 19) (oi := { dst := some 134, op := Op.move (Operand.tmp 9), type := 44, pos := "law.go:234", after := #[{ on := 16, ground := Ground.guard }], guard := some (16, false) }) (v := ?_) rfl (by kernel_rfl) (by kernel_rfl) (by kernel_rfl) (fun _ _ _ h => h) (Or.inl ⟨by rfl, ?_⟩) (by assumption) ?_
                  rotate_left
                  · (intro w hSw; (try dsimp only at hSw); obtain ⟨⟨s2, s3, s4, s5, s6⟩, _⟩ := hSw; go_simp) <;> with_reducible rfl
                  try simp only [Act.put, List.setIfInBounds_toArray, List.set_cons_zero, List.set_cons_succ]
                  refine wpAnyH_take (i := 20) (oi := { dst := some 135, op := Op.call { callee := Callee.builtin Builtin.len, args := #[Operand.tmp 134], argTypes := #[44] }, type := 3, pos := "law.go:234", after := #[{ on := 19, ground := Ground.data }, { on := 16, ground := Ground.guard }], guard := some (16, false) }) (v := ?_) rfl (by kernel_rfl) (by kernel_rfl) (by kernel_rfl) (fun _ _ _ h => h) (Or.inl ⟨by rfl, ?_⟩) (by assumption) ?_
                  rotate_left
                  · (intro w hSw; (try dsimp only at hSw); obtain ⟨⟨s2, s3, s4, s5, s6⟩, _⟩ := hSw; go_simp) <;> with_reducible rfl
                  try simp only [Act.put, List.setIfInBounds_toArray, List.set_cons_zero, List.set_cons_succ]
                  refine wpAnyH_take (i := 21) (oi := { dst := some 136, op := Op.binOp BinOp.sub 3 (Operand.tmp 135) (Operand.const (Value.int IntKind.i64 1)) 3, type := 3, pos := "law.go:234", after := #[{ on := 20, ground := Ground.data }, { on := 16, ground := Ground.guard }], guard := some (16, false) }) (v := ?_) rfl (by kernel_rfl) (by kernel_rfl) (by kernel_rfl) (fun _ _ _ h => h) (Or.inl ⟨by rfl, ?_⟩) (by assumption) ?_
                  rotate_left
                  · (intro w hSw; (try dsimp only at hSw); obtain ⟨⟨s2, s3, s4, s5, s6⟩, _⟩ := hSw; go_simp) <;> with_reducible rfl
                  try simp only [Act.put, List.setIfInBounds_toArray, List.set_cons_zero, List.set_cons_succ]
                  refine wpAnyH_ready (rs := [18]) (by kernel_rfl) (by simp) ?_
                  refine AllReadyH.cons (o := { dst := some 133, op := Op.call { callee := Callee.value (Operand.func 15), args := #[Operand.tmp 132], argTypes := #[25] }, type := 3, pos := "law.go:234", after := #[{ on := 17, ground := Ground.data }, { on := 16, ground := Ground.chain }, { on := 16, ground := Ground.guard }], guard := some (16, false) }) rfl (fun K hK => ?_) AllReadyH.nil
                  go_simp
                  refine Calls.mono (HIN.out _ hHeld.2).2.2.2 ?_
                  rintro _ w7 ⟨rfl, rfl⟩
                  refine hK.out _ _ hHeld (fun hHeld => ?_)
                  clear hK K
                  refine wpAnyH_take (i := 22) (oi := { dst := some 137, op := Op.binOp BinOp.neq 3 (Operand.tmp 133) (Operand.tmp 136) 3, type := 4, pos := "law.go:234", after := #[{ on := 18, ground := Ground.data }, { on := 21, ground := Ground.data }, { on := 16, ground := Ground.guard }], guard := some (16, false) }) (v := ?_) rfl (by kernel_rfl) (by kernel_rfl) (by kernel_rfl) (fun _ _ _ h => h) (Or.inl ⟨by rfl, ?_⟩) (by assumption) ?_
                  rotate_left
                  · (intro w hSw; (try dsimp only at hSw); obtain ⟨⟨s2, s3, s4, s5, s6⟩, _⟩ := hSw; go_simp) <;> with_reducible rfl
                  try simp only [Act.put, List.setIfInBounds_toArray, List.set_cons_zero, List.set_cons_succ]
                  refine wpAnyH_take (i := 23) (oi := { dst := some 138, op := Op.pick (Operand.tmp 131) (Operand.const (Value.bool true)) (Operand.tmp 137), type := 4, pos := "law.go:234", after := #[{ on := 16, ground := Ground.data }, { on := 22, ground := Ground.data }], guard := none }) (v := ?_) rfl (by kernel_rfl) (by kernel_rfl) (by kernel_rfl) (fun _ _ _ h => h) (Or.inl ⟨by rfl, ?_⟩) (by assumption) ?_
                  rotate_left
                  · (intro w hSw; (try dsimp only at hSw); obtain ⟨⟨s2, s3, s4, s5, s6⟩, _⟩ := hSw; go_simp) <;> with_reducible rfl
                  try simp only [Act.put, List.setIfInBounds_toArray, List.set_cons_zero, List.set_cons_succ]
                  refine wpAnyH_done (by kernel_rfl) ?_ _
                  have H7 : Hid (Below w5.heap.size w5 w7) := hHeld.2
                  clear hHeld S0
                  go_wp2_with fail
                  go_loopw [15, 16] (fun vr vj wq => ∃ (j : Nat) (R : List BbT) (ra : Option Addr) (rc : Nat), j ≤ L2.length ∧ vj = .int .i64 (j : Int) ∧ vr = .slice ra R.length rc ∧ Hid (R = restL A B j ∧ Below w7.heap.size w7 wq ∧ wq.ownsRow w7.heap.size 30 1 (.slice ra R.length rc) R.length (R.map BbT.v))) (fun _ vj _ => L2.length - (intOf vj).toNat)
                  case atStart => exact ⟨0, [], none, 0, by omega, rfl, rfl, (restL_zero A B).symm, Below.refl _ _, World.ownsRow_nil _ _ _ _⟩
                  case round =>
                    obtain ⟨j, R, ra, rc, hj, rfl, rfl, HR⟩ := hrel
                    rename World => wq
                    have HJQ : Hid (OnI w wq b (.slice (some ⟨lg, 0, none⟩) L2.length sc2) L2 (A ++ B)) := HJ5.out.1.1.below (H7.out.trans (HR.out.2.1.mono H7.out.size))
                    by_cases hjl : j < L2.length
                    · have hd3 : decide ((j : Int) < (L2.length : Int)) = true := decide_eq_true (by omega)
                      obtain ⟨o', ho'⟩ : ∃ o', L2[j]? = some o' := ⟨_, List.getElem?_eq_getElem hjl⟩
                      obtain ⟨g, e, hz, q0⟩ := row1_at HJQ.out.row ho'
                      simp only [Option.some.injEq, Addr.mk.injEq, and_true] at e
                      subst e
                      by_cases hjk : j = 0
                      · have dq : ((j : Int) == 0) = true := by simp; omega
                        have HR2 : Hid (R = restL A B (j + 1)) := by
                          show R = _
                          rw [HR.out.1, hjk, ← HGD.out.2.2, restL_skip]
                        go_wp2_with fail
                        go_roundw
                        case rel => exact ⟨j + 1, R, ra, rc, by omega, by simp <;> omega, rfl, HR2.out, HR.out.2.1, HR.out.2.2⟩
                        case measure => simp [intOf]; omega
                      · have dq : ((j : Int) == 0) = false := by simp; omega
                        have HR2 : Hid (R ++ [o'] = restL A B (j + 1)) := by
                          show _ = _
                          rw [HR.out.1]
                          exact (restL_next (x := x) (by rw [← HGD.out.2.1]; exact ho') (by rw [HGD.out.2.2]; exact hjk)).symm
                        have hRl : R.length ≤ j := by rw [HR.out.1]; exact restL_len A B j
                        have bq := oneL wq (.cells #[.slice o'.ba o'.bs.length o'.bc] 30)
                        obtain ⟨sv8, w8, hr, ho8, hk8⟩ := app_bb (x := o') (rowKl HR.out.2.2 (Below.kept bq) (fun g hg => by have := (HR.out.2.2.lt g hg).2; omega)) (heap_alloc_new wq (.cells #[.slice o'.ba o'.bs.length o'.bc] 30)) (by omega) (Nat.le_trans HR.out.2.1.size bq.size)
                        obtain ⟨a8, c8, rfl⟩ := rowSl ho8
                        have HR8 : Hid (Below w7.heap.size w7 w8 ∧ w8.ownsRow w7.heap.size 30 1 (.slice a8 (R ++ [o']).length c8) (R ++ [o']).length ((R ++ [o']).map BbT.v)) := by
                          refine ⟨(HR.out.2.1.trans (bq.mono HR.out.2.1.size)).trans (hk8.below (Nat.le_trans HR.out.2.1.size bq.size) (fun k e => (HR.out.2.2.lt k e).1)), ho8⟩
                        clear bq ho8 hk8 ho'
                        go_wp2_with (at_builtin; refine wpList_appL _ rfl _ _ 44 rfl _ _ rfl rfl (hr _) ?_)
                        clear hr
                        go_roundw
                        case rel => exact ⟨j + 1, R ++ [o'], a8, c8, by omega, by simp, by first | rfl | simp, HR2.out, HR8.out.1, HR8.out.2⟩
                        case measure => simp [intOf]; omega
                    · have hd3 : decide ((j : Int) < (L2.length : Int)) = false := decide_eq_false (by omega)
                      obtain rfl : R = A ++ B := by
                        rw [HR.out.1, show j = L2.length by omega, HGD.out.2.1, restL_all]
                      have HJN : Hid (OnI w wq b (.slice ra (A ++ B).length rc) (A ++ B) (A ++ B) ∧ ∀ t ∈ A ++ B, GoodBb w t) := by
                        refine ⟨⟨HJQ.out.bel, HJQ.out.net, row_lowerl HR.out.2.2 (Nat.le_trans HJ5.out.1.1.bel.size H7.out.size)⟩, fun t ht => HGD.out.1 t ?_⟩
                        rw [HGD.out.2.1]
                        rcases List.mem_append.1 ht with ht | ht
                        · exact List.mem_append_left _ ht
                        · exact List.mem_append_right _ (List.mem_cons_of_mem _ ht)
                      clear HJQ HR
                      go_wp2_with fail
                      go_roundw
                      case rel => exact ⟨i2 + 1, A ++ B, ra, rc, by first | rfl | simp, by simp, by have := HN.out; simp; omega, HJN.out⟩
                      case measure => (have := HN.out; simp [lenS]; omega)
              · have hd : decide ((0 : Int) < (L2.length : Int)) = false := decide_eq_false (by omega)
                obtain ⟨nv, ms, hn1, hn2, hn4⟩ := HJ.out.1.net
                have hm0 : ms.length = 0 := by have := hn2.len; omega
                have HD : Hid (Calls Try.prog 13 #[.pointer (some ⟨b, 0, none⟩), .int .i64 0] wr fun e w' => e = .returned (.tuple #[.agg #[.int .i8 0, .int .i8 0, .slice none 0 0, .bool false], .int .i64 220]) ∧ Below wr.heap.size wr w') := take_no hn1 0 (.inr (by omega))
                have HLN : Hid (∀ W, Below wr.heap.size wr W → Calls Try.prog 15 #[.pointer (some ⟨b, 0, none⟩)] W fun e w' => e = .returned (.int .i64 0) ∧ w' = W) := fun W hW => by
                  have := len_anyL (hn1.below hW)
                  rw [hm0] at this
                  exact this
                clear hn1 hn2 hn4 hm0
                go_wp2_with fail
                refine Calls.mono HD.out ?_
                rintro _ w4 ⟨rfl, g1⟩
                have H5 : Hid (Below wr.heap.size wr (w4.alloc (.cells #[.int .i8 0, .int .i8 0, .slice none 0 0, .bool false] 38))) := g1.trans ((oneL w4 _).mono g1.size)
                clear g1 HD
                go_wp2_with fail
                refine Calls.mono (HLN.out _ H5.out) ?_
                rintro _ _ ⟨rfl, rfl⟩
                go_wp2_with fail
                all_goals (go_ret; exact ⟨rfl, HJ.out.1.bel.trans (H5.out.mono HJ.out.1.bel.size)⟩)
end Go.Proofs.Ytdhdmfibdgepfaa
