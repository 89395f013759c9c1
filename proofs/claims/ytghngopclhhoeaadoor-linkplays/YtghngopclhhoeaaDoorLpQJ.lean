/- LinkPlays' does: Send. -/
import Derived.Test.YtghngopclhhoeaaDoorLpPJ
import Derived.Test.YtghngopclhhoeaaDoorLkGJ
import Derived.Test.YtghngopclhhoeaaDoorWideJ
import Derived.Test.YtghngopclhhoeaaDoorRgIJ
namespace Go.Proofs.YtghngopclhhoeaaDoor
open Go.RowKit
set_option maxRecDepth 8000
set_option linter.unusedSimpArgs false
set_option linter.unusedVariables false

/-- What lies in nobody's block stands. -/
theorem Sees.stpQ {W V : World} {own own' : Nat → Nat} {p : Nat} {v : Value} {xs : List Int} (h : Sees W v xs) (ho : xs ≠ [] → ∀ k, v.ownBlock = some k → own k / 10 ≠ p) (hs : Stp W V own own' p) : Sees V v xs ∧ (xs ≠ [] → ∀ k, v.ownBlock = some k → own' k / 10 ≠ p) := by
  obtain ⟨ao, cap, rfl, h1, h2, h0, h3⟩ := h
  rcases h3 with rfl | ⟨b, off, rfl, h3⟩
  · exact ⟨⟨ao, cap, rfl, h1, h2, h0, .inl rfl⟩, fun e => absurd rfl e⟩
  · by_cases hx : xs = []
    · subst hx
      exact ⟨⟨_, cap, rfl, h1, h2, h0, .inl rfl⟩, fun e => absurd rfl e⟩
    · have hb := ho hx b rfl
      refine ⟨⟨_, cap, rfl, h1, h2, h0, .inr ⟨b, off, rfl, fun i hi => hs.kept.cell (h3 i hi) hb⟩⟩, fun _ k e => ?_⟩
      cases e
      have hl : b < W.heap.size := World.block_lt_of_cell? W _ (h3 0 (by cases xs with | nil => exact absurd rfl hx | cons a r => simp))
      rw [hs.old b hl hb]
      exact hb

set_option maxHeartbeats 1000000 in
theorem spoil_anyQ {g n cap : Nat} {zs : List Int} (w : World) (h : Owns w g (.slice (some ⟨g, 0, none⟩) zs.length cap) zs) (hn : n ≤ zs.length) (hb : n ≤ 70000000000000) :
    Calls Tryd.prog 19 #[.slice (some ⟨g, 0, none⟩) n cap] w fun e w' => e = .returned (.tuple #[]) ∧ Kept w w' (fun k => k = g) := by
  have HO0 : Hid (Owns w g (.slice (some ⟨g, 0, none⟩) zs.length cap) zs) := h
  obtain ⟨N, hN⟩ : ∃ N, N = zs.length := ⟨_, rfl⟩
  clear h
  go_enter Tryd.func19, Tryd.ntmps19
  go_wp2
  go_loopw [2] (fun vi wr => ∃ k : Nat, k ≤ n ∧ vi = .int .i64 (k : Int) ∧ Hid (∃ ys : List Int, ys.length = N ∧ Owns wr g (.slice (some ⟨g, 0, none⟩) ys.length cap) ys ∧ Kept w wr (fun k => k = g))) (fun vi _ => n - (intOf vi).toNat)
  case atStart => exact ⟨0, Nat.zero_le _, rfl, zs, hN.symm, HO0.out, Kept.refl _ _⟩
  case round =>
    obtain ⟨k, hk, rfl, HI⟩ := hrel
    by_cases hlt : k < n
    · have hd : decide ((k : Int) < (n : Int)) = true := by simp; omega
      obtain ⟨ys, hyl, ho, hkp⟩ := HI.out
      have hc := owns_cell ho k (by omega)
      have hf := ho.frozenAt k
      have HN : Hid (∃ ys : List Int, ys.length = N ∧ Owns (wr.setCell ⟨g, k, none⟩ (.int .u8 99)) g (.slice (some ⟨g, 0, none⟩) ys.length cap) ys ∧ Kept w (wr.setCell ⟨g, k, none⟩ (.int .u8 99)) (fun k => k = g)) := by
        obtain ⟨h1, h2⟩ := owns_set ho k 99
        exact ⟨ys.set k 99, by simpa using hyl, h1, hkp.trans ⟨h2.os, h2.tape, h2.output, h2.size, fun j hj hne => h2.block j hj (fun e => hne (by cases e; rfl))⟩ (fun _ _ e => e)⟩
      have q0 : (0 : Int) ≤ (k : Int) := by omega
      have q1 : (k : Int) < (n : Int) := by omega
      clear ho hkp HI
      go_wp2
      go_roundw
      case rel => exact ⟨k + 1, by omega, by go_num, HN.out⟩
      case measure => simp [intOf]; omega
    · have hd : decide ((k : Int) < (n : Int)) = false := by simp; omega
      have HE : Hid (Kept w wr (fun k => k = g)) := by obtain ⟨_, _, _, h⟩ := HI.out; exact h
      clear HI
      go_wp2
      go_end0
      exact ⟨rfl, HE.out⟩

section
variable {W : World} {own : Nat → Nat} {p : Nat} {R : PlR}

/-- The program's Send. -/
theorem Pq.snd (h : Pq W own p R) (f t : Int) (f0 : -128 ≤ f) (f1 : f ≤ 127) (t0 : -128 ≤ t) (t1 : t ≤ 127) (gi cap : Nat) (xs : List Int) (hs : Sees W (.slice (some ⟨gi, 0, none⟩) xs.length cap) xs) (hy : Byts xs) (hl : R.l.length ≤ 99999999) : Calls Tryd.prog 12 #[.pointer (some ⟨R.N, 0, none⟩), .int .i8 f, .int .i8 t, .slice (some ⟨gi, 0, none⟩) xs.length cap] W fun e w' => ∃ er own' v' l', e = .returned (.int .i64 er) ∧ Pq w' own' p { R with v := v', l := l' } ∧ Stp W w' own own' p ∧
    ((okS R.n f t xs.length = false ∧ er = 1 ∧ l' = R.l) ∨ (okS R.n f t xs.length = true ∧ er = 0 ∧ ∃ m : MsD, l' = R.l ++ [m] ∧ m.f = f ∧ m.t = t ∧ m.bs = xs ∧ m.sp = false)) := by
  cases hk0 : okS R.n f t xs.length with
  | false =>
    refine (send_no h.nt f t f0 f1 t0 t1 _ _ _ hk0).mono ?_
    rintro e w' ⟨rfl, rfl⟩
    exact ⟨1, own, R.v, R.l, rfl, h, Stp.refl _ _ _, .inl ⟨rfl, rfl, rfl⟩⟩
  | true =>
    refine (send_yes h.nt f t f0 f1 t0 t1 gi 0 cap xs hs hy (by omega) hk0).mono ?_
    rintro e w' ⟨rfl, v', G, hn, hk, hnr, hG⟩
    have hk' : Kept W w' (fun k => Fn R.N R.v R.l k) := hk.mono (fun k _ e => e.elim .inl (fun e => .inr (.inl e)))
    refine ⟨0, _, v', _, rfl, h.net hn hk' (fun k hf => ?_), Stp.up hk' (fun k _ hf => h.on10 hf), .inr ⟨rfl, rfl, _, rfl, rfl, rfl, rfl, rfl⟩⟩
    rcases hf with e | e | ⟨m2, hm2, e⟩
    · exact .inl (.inl e)
    · rcases hnr with e2 | ⟨k', e2, hk2⟩
      · exact .inl (.inr (.inl (by rw [← e2]; exact e)))
      · rw [e2] at e; cases e; exact .inr hk2
    · rcases List.mem_append.1 hm2 with hm2 | hm2
      · exact .inl (.inr (.inr ⟨m2, hm2, e⟩))
      · simp at hm2
        subst hm2
        exact .inr (by rw [← e]; exact hG)

/-- The document's Send. -/
theorem Pq.rsnd (h : Pq W own p R) (f t : Int) (f0 : -128 ≤ f) (f1 : f ≤ 127) (t0 : -128 ≤ t) (t1 : t ≤ 127) (ba : Option Addr) (cap : Nat) (xs : List Int) (hs : Sees W (.slice ba xs.length cap) xs) (hl : R.L.length ≤ 99999999) : Calls Tryd.prog 17 #[.pointer (some ⟨R.d, 0, none⟩), .int .i8 f, .int .i8 t, .slice ba xs.length cap] W fun e w' => ∃ er own' V' L', e = .returned (.int .i64 er) ∧ Pq w' own' p { R with V := V', L := L' } ∧ Stp W w' own own' p ∧
    ((okS R.n f t xs.length = false ∧ er = 1 ∧ L' = R.L) ∨ (okS R.n f t xs.length = true ∧ er = 0 ∧ ∃ (L4 : List MsG) (m : MsG), L' = L4 ++ [m] ∧ AlikeG R.L L4 ∧ m.f = f ∧ m.t = t ∧ m.bs = xs ∧ m.sp = false)) := by
  cases hk0 : okS R.n f t xs.length with
  | false =>
    refine (rSend_no h.dn f t f0 f1 t0 t1 _ _ _ hk0).mono ?_
    rintro e w' ⟨rfl, rfl⟩
    exact ⟨1, own, R.V, R.L, rfl, h, Stp.refl _ _ _, .inl ⟨rfl, rfl, rfl⟩⟩
  | true =>
    refine (rSend_yes h.dn (Nat.zero_le _) f t f0 f1 t0 t1 ba cap xs hs (by omega) hk0).mono ?_
    rintro e w' ⟨rfl, V', L4, x, hd, hal, hx, hk, hnew⟩
    have hk' : Kept W w' (fun k => k = R.d ∨ R.V.ownBlock = some k) := hk.mono (fun _ _ e => .inl e)
    have hnd : ∀ k, (V'.ownBlock = some k ∨ ∃ m ∈ L4 ++ [x], m.v.ownBlock = some k) → W.heap.size ≤ k := fun k e => by
      rcases hnew k (.inr e) with e2 | e2
      · subst e2
        rcases e with e | ⟨m, hm, e⟩
        · obtain ⟨cs, e3⟩ := rowTl hd.ow.row e
          have := hd.hb
          rw [e3] at this; simp at this
        · obtain ⟨cs, e3⟩ := rowTl (hd.ow.own m hm) e
          have := hd.hb
          rw [e3] at this; simp at this
      · exact e2
    exact ⟨0, _, V', _, rfl, h.doc hd hk' (fun k e => .inr (hnd k (.inl e))) (fun m hm k e => .inr (hnd k (.inr ⟨m, hm, e⟩))), Stp.upD hk' (fun k _ hf => h.od10 hf), .inr ⟨rfl, rfl, L4, x, rfl, hal, hx⟩⟩

theorem snd_both {n f t er er2 : Int} {xs : List Int} {l l1 : List MsD} {L L2 : List MsG} (hal : AlikeG (l.map MsD.gd) L)
    (h1 : (okS n f t xs.length = false ∧ er = 1 ∧ l1 = l) ∨ (okS n f t xs.length = true ∧ er = 0 ∧ ∃ m : MsD, l1 = l ++ [m] ∧ m.f = f ∧ m.t = t ∧ m.bs = xs ∧ m.sp = false))
    (h2 : (okS n f t xs.length = false ∧ er2 = 1 ∧ L2 = L) ∨ (okS n f t xs.length = true ∧ er2 = 0 ∧ ∃ (L4 : List MsG) (m : MsG), L2 = L4 ++ [m] ∧ AlikeG L L4 ∧ m.f = f ∧ m.t = t ∧ m.bs = xs ∧ m.sp = false)) : er = er2 ∧ AlikeG (l1.map MsD.gd) L2 ∧ l1.length ≤ l.length + 1 := by
  rcases h1 with ⟨e1, rfl, rfl⟩ | ⟨e1, rfl, m, rfl, a1, a2, a3, a4⟩
  · rcases h2 with ⟨e2, rfl, rfl⟩ | ⟨e2, _⟩
    · exact ⟨rfl, hal, by omega⟩
    · rw [e1] at e2; cases e2
  · rcases h2 with ⟨e2, _⟩ | ⟨e2, rfl, L4, m2, rfl, hal4, b1, b2, b3, b4⟩
    · rw [e1] at e2; cases e2
    · refine ⟨rfl, ?_, by simp⟩
      rw [List.map_append]
      exact (hal.trans hal4).app ⟨a1.trans b1.symm, a2.trans b2.symm, a3.trans b3.symm, a4.trans b4.symm⟩

/-- What stands while a message is sent. -/
structure SnQ (V : World) (own : Nat → Nat) (p : Nat) (R : PlR) (bx gi : Nat) (on f t : Int) (ba : Option Addr) (bc : Nat) (bs : List Int) (pl k xx : Int) : Prop where
  pq : Pq V own p R
  bo : BoxQ V bx 1 on f t (.slice ba bs.length bc) pl k xx
  bo' : own bx / 10 ≠ p
  wi : Owns V gi (.slice (some ⟨gi, 0, none⟩) (wide bs).length (bs.length + 64)) (wide bs)
  wi' : own gi / 10 ≠ p
  se : Sees V (.slice ba bs.length bc) bs
  se' : bs ≠ [] → ∀ k, (Value.slice ba bs.length bc).ownBlock = some k → own k / 10 ≠ p
theorem SnQ.stp {V V' : World} {own own' : Nat → Nat} {R R' : PlR} {bx gi : Nat} {on f t : Int} {ba : Option Addr} {bc : Nat} {bs : List Int} {pl k xx : Int} (h : SnQ V own p R bx gi on f t ba bc bs pl k xx) (hq : Pq V' own' p R') (hs : Stp V V' own own' p) : SnQ V' own' p R' bx gi on f t ba bc bs pl k xx := by
  obtain ⟨b1, b2⟩ := h.bo.stp h.bo' hs
  obtain ⟨s1, s2⟩ := h.se.stpQ h.se' hs
  exact ⟨hq, b1, b2, Owns.kept h.wi hs.kept (fun k e => by cases e; exact h.wi'), by rw [hs.old _ (h.wi.lt gi rfl).2 h.wi']; exact h.wi', s1, s2⟩
theorem SnQ.si {V : World} {own : Nat → Nat} {R : PlR} {bx gi : Nat} {on f t : Int} {ba : Option Addr} {bc : Nat} {bs : List Int} {pl k xx : Int} (h : SnQ V own p R bx gi on f t ba bc bs pl k xx) : Sees V (.slice (some ⟨gi, 0, none⟩) bs.length (bs.length + 64)) bs := by
  have := sees_prefix h.wi (n := bs.length) (by rw [wide_len]; omega)
  rw [wide_take] at this
  exact this

set_option maxHeartbeats 4000000 in
theorem does_send (hp1 : p ≤ 1) (h : Pq W own p R) (hal : AlikeG (R.l.map MsD.gd) R.L) (hkt : AlikeG R.K R.T) (hl : R.l.length ≤ 99999998) (on f t : Int) (ba : Option Addr) (bc : Nat) (bs : List Int) (pl k xx : Int) (hse : Sees W (.slice ba bs.length bc) bs) (hso : bs ≠ [] → ∀ k, (Value.slice ba bs.length bc).ownBlock = some k → own k / 10 ≠ p) (hby : Byts bs) (hbl : bs.length ≤ 67108864) (f0 : -128 ≤ f) (f1 : f ≤ 127) (t0 : -128 ≤ t) (t1 : t ≤ 127) :
    Calls Tryd.prog 8 #[.pointer (some ⟨R.x, 0, none⟩), .agg #[.int .i64 1, .int .i64 on, .int .i8 f, .int .i8 t, .slice ba bs.length bc, .int .i64 pl, .int .i64 k, .int .u8 xx]] W fun e w' => e = .returned (.bool true) ∧ Hid (DoQ W w' own p R) := by
  have hLl : R.L.length = R.l.length := by have := hal.1; simpa using this.symm
  obtain ⟨bv, hbv⟩ : ∃ bv, bv = Value.slice ba bs.length bc := ⟨_, rfl⟩
  rw [← hbv]
  obtain ⟨bx, hbx⟩ : ∃ b, b = W.heap.size := ⟨_, rfl⟩
  obtain ⟨W0, hW0⟩ : ∃ W0, W0 = W.alloc (.cells #[.int .i64 1, .int .i64 on, .int .i8 f, .int .i8 t, bv, .int .i64 pl, .int .i64 k, .int .u8 xx] 41) := ⟨_, rfl⟩
  obtain ⟨own0, hown0⟩ : ∃ o, o = upQ own W.heap.size 999 := ⟨_, rfl⟩
  have H0 : Hid (Pq W0 own0 p R ∧ BoxQ W0 bx 1 on f t bv pl k xx ∧ own0 bx / 10 ≠ p) := by
    rw [hW0, hbx, hown0]
    have hk : Kept W (W.alloc (.cells #[.int .i64 1, .int .i64 on, .int .i8 f, .int .i8 t, bv, .int .i64 pl, .int .i64 k, .int .u8 xx] 41)) (fun _ => False) := (Kept.refl _ _).alloc _
    exact ⟨h.keep hk (fun _ _ e => e.elim) (fun k hkl _ => upQ_old hkl), heap_alloc_new _ _, by rw [upQ_new (Nat.le_refl _)]; omega⟩
  have HOut : Hid (∀ w', DoQ W0 w' own0 p R → DoQ W w' own p R) := by
    rw [hW0, hown0]
    intro w' hq
    obtain ⟨own', R', h1, h2, h3, h4, h5, h6, h7⟩ := hq
    exact ⟨own', R', h1, h2, h3, h4, h5, h6, Stp.trans (own1 := upQ own W.heap.size 999) ⟨(Kept.refl W _).alloc _, fun k hkl _ => upQ_old hkl⟩ h7⟩
  have HST : Hid (Stp W W0 own own0 p) := by rw [hW0, hown0]; exact ⟨(Kept.refl W _).alloc _, fun k hkl _ => upQ_old hkl⟩
  have HW0 : Hid (W.alloc (.cells #[.int .i64 1, .int .i64 on, .int .i8 f, .int .i8 t, bv, .int .i64 pl, .int .i64 k, .int .u8 xx] 41) = W0) := hW0.symm
  have HBx : Hid (W.heap.size = bx) := hbx.symm
  have k0 : W0.cell? ⟨bx, 0, none⟩ = some (.int .i64 1) := by rw [cell_of_row _ _ 0 _ _ _ H0.out.2.1]; rfl
  have zb : bx < W0.heap.size := lt_of_block H0.out.2.1
  clear h hW0 hbx hown0
  have HP : Hid (AlikeG (R.l.map MsD.gd) R.L ∧ AlikeG R.K R.T) := ⟨hal, hkt⟩
  have HS0 : Hid (Sees W0 (.slice ba bs.length bc) bs ∧ (bs ≠ [] → ∀ k, (Value.slice ba bs.length bc).ownBlock = some k → own0 k / 10 ≠ p)) := hse.stpQ hso HST.out
  have k4 : W0.cell? ⟨bx, 4, none⟩ = some bv := by rw [cell_of_row _ _ 4 _ _ _ H0.out.2.1]; rfl
  clear hal hkt hse hso
  subst hbv
  have HWD : Hid _ := wideBytes_any _ bs W0 HS0.out.1 (by omega)
  go_enter Tryd.func8, Tryd.ntmps8
  go_upto_region 1 with fail
  rw [HW0.out, HBx.out]
  clear HW0 HBx
  go_wp2_with fail
  refine Calls.mono HWD.out ?_
  rintro _ wa ⟨rfl, hwo, hwb⟩
  obtain ⟨gi, hgi⟩ : ∃ g, g = W0.heap.size := ⟨_, rfl⟩
  rw [← hgi] at hwo ⊢
  have HSA : Hid (SnQ wa (upQ own0 W0.heap.size 999) p R bx gi on f t ba bc bs pl k xx ∧ Stp W0 wa own0 (upQ own0 W0.heap.size 999) p) := by
    have hst : Stp W0 wa own0 (upQ own0 W0.heap.size 999) p := ⟨(bel_keptQ hwb).mono (fun _ _ e => e.elim), fun k hk _ => upQ_old hk⟩
    obtain ⟨b1, b2⟩ := H0.out.2.1.stp H0.out.2.2 hst
    obtain ⟨s1, s2⟩ := HS0.out.1.stpQ HS0.out.2 hst
    exact ⟨⟨H0.out.1.keep (bel_keptQ hwb) (fun _ _ e => e.elim) (fun k hk _ => upQ_old hk), b1, b2, hwo, by rw [hgi, upQ_new (Nat.le_refl _)]; omega, s1, s2⟩, hst⟩
  have HGI : Hid (W0.heap.size ≤ gi) := Nat.le_of_eq hgi.symm
  clear hwo hwb hgi HWD HS0 k0 k4 zb H0 HST
  generalize upQ own0 W0.heap.size 999 = owna at *
  have HD : Hid _ := Pq.snd (HSA.out.1.pq.new ((Kept.refl _ _).drewN 1)) f t f0 f1 t0 t1 gi (bs.length + 64) bs (HSA.out.1.si.kept ((Kept.refl _ (fun _ => False)).drewN 1) (fun _ _ e => e)) hby (by omega)
  go_wp2_with fail
  refine wp_region_held_drew (S := (fun V => BxQ V R bx f t (.slice ba bs.length bc) pl k xx)) (by kernel_rfl) ?_ (fun hHeld => ?_)
  · exact BxQ.of (HSA.out.1.pq.new ((Kept.refl _ _).drewN 1)) HSA.out.1.bo
  refine wpAnyH_take (i := 0) (oi := { dst := some 29, op := Op.move (Operand.tmp 0), type := 25, pos := "law.go:62", after := #[], guard := none }) (v := ?_) rfl (by kernel_rfl) (by kernel_rfl) (by kernel_rfl) (fun _ _ _ h => h) (Or.inl ⟨by rfl, ?_⟩) (by assumption) ?_
  rotate_left
  · (intro w hSw; (try dsimp only at hSw); obtain ⟨x0, x1, x2, x3, o2, o3, o4, o5, o6, o7, zx, zb⟩ := hSw; go_simp) <;> with_reducible rfl
  try simp only [Act.put, List.setIfInBounds_toArray, List.set_cons_zero, List.set_cons_succ]
  refine wpAnyH_take (i := 1) (oi := { dst := some 30, op := Op.nilCheck (Operand.tmp 29), type := 0, pos := "law.go:62", after := #[{ on := 0, ground := Ground.data }], guard := none }) (v := ?_) rfl (by kernel_rfl) (by kernel_rfl) (by kernel_rfl) (fun _ _ _ h => h) (Or.inl ⟨by rfl, ?_⟩) (by assumption) ?_
  rotate_left
  · (intro w hSw; (try dsimp only at hSw); obtain ⟨x0, x1, x2, x3, o2, o3, o4, o5, o6, o7, zx, zb⟩ := hSw; go_simp) <;> with_reducible rfl
  try simp only [Act.put, List.setIfInBounds_toArray, List.set_cons_zero, List.set_cons_succ]
  refine wpAnyH_take (i := 2) (oi := { dst := some 31, op := Op.fieldAddr 37 (Operand.tmp 30) 0, type := 0, pos := "law.go:62", after := #[{ on := 1, ground := Ground.data }], guard := none }) (v := ?_) rfl (by kernel_rfl) (by kernel_rfl) (by kernel_rfl) (fun _ _ _ h => h) (Or.inl ⟨by rfl, ?_⟩) (by assumption) ?_
  rotate_left
  · (intro w hSw; (try dsimp only at hSw); obtain ⟨x0, x1, x2, x3, o2, o3, o4, o5, o6, o7, zx, zb⟩ := hSw; go_simp) <;> with_reducible rfl
  try simp only [Act.put, List.setIfInBounds_toArray, List.set_cons_zero, List.set_cons_succ]
  refine wpAnyH_take (i := 3) (oi := { dst := some 32, op := Op.load 28 (Operand.tmp 31), type := 28, pos := "law.go:62", after := #[{ on := 2, ground := Ground.data }], guard := none }) (v := ?_) rfl (by kernel_rfl) (by kernel_rfl) (by kernel_rfl) (fun _ _ _ h => h) (Or.inl ⟨by rfl, ?_⟩) (by assumption) ?_
  rotate_left
  · (intro w hSw; (try dsimp only at hSw); obtain ⟨x0, x1, x2, x3, o2, o3, o4, o5, o6, o7, zx, zb⟩ := hSw; go_simp) <;> with_reducible rfl
  try simp only [Act.put, List.setIfInBounds_toArray, List.set_cons_zero, List.set_cons_succ]
  refine wpAnyH_take (i := 4) (oi := { dst := some 33, op := Op.fieldAddr 41 (Operand.tmp 3) 2, type := 0, pos := "law.go:62", after := #[], guard := none }) (v := ?_) rfl (by kernel_rfl) (by kernel_rfl) (by kernel_rfl) (fun _ _ _ h => h) (Or.inl ⟨by rfl, ?_⟩) (by assumption) ?_
  rotate_left
  · (intro w hSw; (try dsimp only at hSw); obtain ⟨x0, x1, x2, x3, o2, o3, o4, o5, o6, o7, zx, zb⟩ := hSw; go_simp) <;> with_reducible rfl
  try simp only [Act.put, List.setIfInBounds_toArray, List.set_cons_zero, List.set_cons_succ]
  refine wpAnyH_take (i := 5) (oi := { dst := some 34, op := Op.load 38 (Operand.tmp 33), type := 38, pos := "law.go:62", after := #[{ on := 4, ground := Ground.data }], guard := none }) (v := ?_) rfl (by kernel_rfl) (by kernel_rfl) (by kernel_rfl) (fun _ _ _ h => h) (Or.inl ⟨by rfl, ?_⟩) (by assumption) ?_
  rotate_left
  · (intro w hSw; (try dsimp only at hSw); obtain ⟨x0, x1, x2, x3, o2, o3, o4, o5, o6, o7, zx, zb⟩ := hSw; go_simp) <;> with_reducible rfl
  try simp only [Act.put, List.setIfInBounds_toArray, List.set_cons_zero, List.set_cons_succ]
  refine wpAnyH_take (i := 6) (oi := { dst := some 35, op := Op.fieldAddr 41 (Operand.tmp 3) 3, type := 0, pos := "law.go:62", after := #[], guard := none }) (v := ?_) rfl (by kernel_rfl) (by kernel_rfl) (by kernel_rfl) (fun _ _ _ h => h) (Or.inl ⟨by rfl, ?_⟩) (by assumption) ?_
  rotate_left
  · (intro w hSw; (try dsimp only at hSw); obtain ⟨x0, x1, x2, x3, o2, o3, o4, o5, o6, o7, zx, zb⟩ := hSw; go_simp) <;> with_reducible rfl
  try simp only [Act.put, List.setIfInBounds_toArray, List.set_cons_zero, List.set_cons_succ]
  refine wpAnyH_take (i := 7) (oi := { dst := some 36, op := Op.load 38 (Operand.tmp 35), type := 38, pos := "law.go:62", after := #[{ on := 6, ground := Ground.data }], guard := none }) (v := ?_) rfl (by kernel_rfl) (by kernel_rfl) (by kernel_rfl) (fun _ _ _ h => h) (Or.inl ⟨by rfl, ?_⟩) (by assumption) ?_
  rotate_left
  · (intro w hSw; (try dsimp only at hSw); obtain ⟨x0, x1, x2, x3, o2, o3, o4, o5, o6, o7, zx, zb⟩ := hSw; go_simp) <;> with_reducible rfl
  try simp only [Act.put, List.setIfInBounds_toArray, List.set_cons_zero, List.set_cons_succ]
  refine wpAnyH_take (i := 8) (oi := { dst := some 37, op := Op.move (Operand.tmp 5), type := 39, pos := "law.go:62", after := #[], guard := none }) (v := ?_) rfl (by kernel_rfl) (by kernel_rfl) (by kernel_rfl) (fun _ _ _ h => h) (Or.inl ⟨by rfl, ?_⟩) (by assumption) ?_
  rotate_left
  · (intro w hSw; (try dsimp only at hSw); obtain ⟨x0, x1, x2, x3, o2, o3, o4, o5, o6, o7, zx, zb⟩ := hSw; go_simp) <;> with_reducible rfl
  try simp only [Act.put, List.setIfInBounds_toArray, List.set_cons_zero, List.set_cons_succ]
  refine wpAnyH_ready (rs := [9]) (by kernel_rfl) (by simp) ?_
  refine AllReadyH.cons (o := { dst := some 38, op := Op.call { callee := Callee.value (Operand.func 12), args := #[Operand.tmp 32, Operand.tmp 34, Operand.tmp 36, Operand.tmp 37], argTypes := #[28, 38, 38, 39] }, type := 29, pos := "law.go:62", after := #[{ on := 3, ground := Ground.data }, { on := 5, ground := Ground.data }, { on := 7, ground := Ground.data }, { on := 8, ground := Ground.data }], guard := none }) rfl (fun K hK => ?_) AllReadyH.nil
  go_simp
  refine Calls.mono HD.out ?_
  rintro _ w1 ⟨er, own1, v1, l1, rfl, hq1, hs1, hc1⟩
  have hs1 := (Stp.new (own := owna) (p := p) ((Kept.refl wa _).drewN 1)).trans hs1
  have H1 : Hid (SnQ w1 own1 p { R with v := v1, l := l1 } bx gi on f t ba bc bs pl k xx ∧ Stp wa w1 owna own1 p) := ⟨HSA.out.1.stp hq1 hs1, hs1⟩
  have HC1 : Hid _ := hc1
  have HD2 : Hid _ := Pq.rsnd (H1.out.1.pq.new ((Kept.refl _ _).drewN 1)) f t f0 f1 t0 t1 ba bc bs (H1.out.1.se.kept ((Kept.refl _ (fun _ => False)).drewN 1) (fun _ _ e => e)) (by show R.L.length ≤ _; omega)
  have S1 : BxQ w1 R bx f t (.slice ba bs.length bc) pl k xx := (BxQ.of H1.out.1.pq H1.out.1.bo).re rfl rfl rfl rfl rfl
  clear hq1 hs1 hc1 hHeld
  refine hK.out _ _ S1 (fun hHeld => ?_)
  clear hK K
  refine wpAnyH_take (i := 10) (oi := { dst := some 6, op := Op.assign (Operand.tmp 38), type := 29, pos := "law.go:62", after := #[{ on := 9, ground := Ground.data }, { on := 9, ground := Ground.chain }, { on := 0, ground := Ground.phase }, { on := 1, ground := Ground.phase }, { on := 2, ground := Ground.phase }, { on := 3, ground := Ground.phase }, { on := 4, ground := Ground.phase }, { on := 5, ground := Ground.phase }, { on := 6, ground := Ground.phase }, { on := 7, ground := Ground.phase }, { on := 8, ground := Ground.phase }, { on := 9, ground := Ground.phase }], guard := none }) (v := ?_) rfl (by kernel_rfl) (by kernel_rfl) (by kernel_rfl) (fun _ _ _ h => h) (Or.inl ⟨by rfl, ?_⟩) (by assumption) ?_
  rotate_left
  · (intro w hSw; (try dsimp only at hSw); obtain ⟨x0, x1, x2, x3, o2, o3, o4, o5, o6, o7, zx, zb⟩ := hSw; go_simp) <;> with_reducible rfl
  try simp only [Act.put, List.setIfInBounds_toArray, List.set_cons_zero, List.set_cons_succ]
  refine wpAnyH_done (by kernel_rfl) ?_ _
  clear hHeld
  go_wp2_with fail
  refine wp_region_held_drew (S := (fun V => BxQ V R bx f t (.slice ba bs.length bc) pl k xx)) (by kernel_rfl) ?_ (fun hHeld => ?_)
  · exact BxQ.re (BxQ.of (H1.out.1.pq.new ((Kept.refl _ _).drewN 1)) H1.out.1.bo) rfl rfl rfl rfl rfl
  refine wpAnyH_take (i := 0) (oi := { dst := some 39, op := Op.move (Operand.tmp 0), type := 25, pos := "law.go:63", after := #[], guard := none }) (v := ?_) rfl (by kernel_rfl) (by kernel_rfl) (by kernel_rfl) (fun _ _ _ h => h) (Or.inl ⟨by rfl, ?_⟩) (by assumption) ?_
  rotate_left
  · (intro w hSw; (try dsimp only at hSw); obtain ⟨x0, x1, x2, x3, o2, o3, o4, o5, o6, o7, zx, zb⟩ := hSw; go_simp) <;> with_reducible rfl
  try simp only [Act.put, List.setIfInBounds_toArray, List.set_cons_zero, List.set_cons_succ]
  refine wpAnyH_take (i := 1) (oi := { dst := some 40, op := Op.nilCheck (Operand.tmp 39), type := 0, pos := "law.go:63", after := #[{ on := 0, ground := Ground.data }], guard := none }) (v := ?_) rfl (by kernel_rfl) (by kernel_rfl) (by kernel_rfl) (fun _ _ _ h => h) (Or.inl ⟨by rfl, ?_⟩) (by assumption) ?_
  rotate_left
  · (intro w hSw; (try dsimp only at hSw); obtain ⟨x0, x1, x2, x3, o2, o3, o4, o5, o6, o7, zx, zb⟩ := hSw; go_simp) <;> with_reducible rfl
  try simp only [Act.put, List.setIfInBounds_toArray, List.set_cons_zero, List.set_cons_succ]
  refine wpAnyH_take (i := 2) (oi := { dst := some 41, op := Op.fieldAddr 37 (Operand.tmp 40) 1, type := 0, pos := "law.go:63", after := #[{ on := 1, ground := Ground.data }], guard := none }) (v := ?_) rfl (by kernel_rfl) (by kernel_rfl) (by kernel_rfl) (fun _ _ _ h => h) (Or.inl ⟨by rfl, ?_⟩) (by assumption) ?_
  rotate_left
  · (intro w hSw; (try dsimp only at hSw); obtain ⟨x0, x1, x2, x3, o2, o3, o4, o5, o6, o7, zx, zb⟩ := hSw; go_simp) <;> with_reducible rfl
  try simp only [Act.put, List.setIfInBounds_toArray, List.set_cons_zero, List.set_cons_succ]
  refine wpAnyH_take (i := 3) (oi := { dst := some 42, op := Op.load 32 (Operand.tmp 41), type := 32, pos := "law.go:63", after := #[{ on := 2, ground := Ground.data }], guard := none }) (v := ?_) rfl (by kernel_rfl) (by kernel_rfl) (by kernel_rfl) (fun _ _ _ h => h) (Or.inl ⟨by rfl, ?_⟩) (by assumption) ?_
  rotate_left
  · (intro w hSw; (try dsimp only at hSw); obtain ⟨x0, x1, x2, x3, o2, o3, o4, o5, o6, o7, zx, zb⟩ := hSw; go_simp) <;> with_reducible rfl
  try simp only [Act.put, List.setIfInBounds_toArray, List.set_cons_zero, List.set_cons_succ]
  refine wpAnyH_take (i := 4) (oi := { dst := some 43, op := Op.fieldAddr 41 (Operand.tmp 3) 2, type := 0, pos := "law.go:63", after := #[], guard := none }) (v := ?_) rfl (by kernel_rfl) (by kernel_rfl) (by kernel_rfl) (fun _ _ _ h => h) (Or.inl ⟨by rfl, ?_⟩) (by assumption) ?_
  rotate_left
  · (intro w hSw; (try dsimp only at hSw); obtain ⟨x0, x1, x2, x3, o2, o3, o4, o5, o6, o7, zx, zb⟩ := hSw; go_simp) <;> with_reducible rfl
  try simp only [Act.put, List.setIfInBounds_toArray, List.set_cons_zero, List.set_cons_succ]
  refine wpAnyH_take (i := 5) (oi := { dst := some 44, op := Op.load 38 (Operand.tmp 43), type := 38, pos := "law.go:63", after := #[{ on := 4, ground := Ground.data }], guard := none }) (v := ?_) rfl (by kernel_rfl) (by kernel_rfl) (by kernel_rfl) (fun _ _ _ h => h) (Or.inl ⟨by rfl, ?_⟩) (by assumption) ?_
  rotate_left
  · (intro w hSw; (try dsimp only at hSw); obtain ⟨x0, x1, x2, x3, o2, o3, o4, o5, o6, o7, zx, zb⟩ := hSw; go_simp) <;> with_reducible rfl
  try simp only [Act.put, List.setIfInBounds_toArray, List.set_cons_zero, List.set_cons_succ]
  refine wpAnyH_take (i := 6) (oi := { dst := some 45, op := Op.fieldAddr 41 (Operand.tmp 3) 3, type := 0, pos := "law.go:63", after := #[], guard := none }) (v := ?_) rfl (by kernel_rfl) (by kernel_rfl) (by kernel_rfl) (fun _ _ _ h => h) (Or.inl ⟨by rfl, ?_⟩) (by assumption) ?_
  rotate_left
  · (intro w hSw; (try dsimp only at hSw); obtain ⟨x0, x1, x2, x3, o2, o3, o4, o5, o6, o7, zx, zb⟩ := hSw; go_simp) <;> with_reducible rfl
  try simp only [Act.put, List.setIfInBounds_toArray, List.set_cons_zero, List.set_cons_succ]
  refine wpAnyH_take (i := 7) (oi := { dst := some 46, op := Op.load 38 (Operand.tmp 45), type := 38, pos := "law.go:63", after := #[{ on := 6, ground := Ground.data }], guard := none }) (v := ?_) rfl (by kernel_rfl) (by kernel_rfl) (by kernel_rfl) (fun _ _ _ h => h) (Or.inl ⟨by rfl, ?_⟩) (by assumption) ?_
  rotate_left
  · (intro w hSw; (try dsimp only at hSw); obtain ⟨x0, x1, x2, x3, o2, o3, o4, o5, o6, o7, zx, zb⟩ := hSw; go_simp) <;> with_reducible rfl
  try simp only [Act.put, List.setIfInBounds_toArray, List.set_cons_zero, List.set_cons_succ]
  refine wpAnyH_take (i := 8) (oi := { dst := some 47, op := Op.fieldAddr 41 (Operand.tmp 3) 4, type := 0, pos := "law.go:63", after := #[], guard := none }) (v := ?_) rfl (by kernel_rfl) (by kernel_rfl) (by kernel_rfl) (fun _ _ _ h => h) (Or.inl ⟨by rfl, ?_⟩) (by assumption) ?_
  rotate_left
  · (intro w hSw; (try dsimp only at hSw); obtain ⟨x0, x1, x2, x3, o2, o3, o4, o5, o6, o7, zx, zb⟩ := hSw; go_simp) <;> with_reducible rfl
  try simp only [Act.put, List.setIfInBounds_toArray, List.set_cons_zero, List.set_cons_succ]
  refine wpAnyH_take (i := 9) (oi := { dst := some 48, op := Op.load 39 (Operand.tmp 47), type := 39, pos := "law.go:63", after := #[{ on := 8, ground := Ground.data }], guard := none }) (v := ?_) rfl (by kernel_rfl) (by kernel_rfl) (by kernel_rfl) (fun _ _ _ h => h) (Or.inl ⟨by rfl, ?_⟩) (by assumption) ?_
  rotate_left
  · (intro w hSw; (try dsimp only at hSw); obtain ⟨x0, x1, x2, x3, o2, o3, o4, o5, o6, o7, zx, zb⟩ := hSw; go_simp) <;> with_reducible rfl
  try simp only [Act.put, List.setIfInBounds_toArray, List.set_cons_zero, List.set_cons_succ]
  refine wpAnyH_ready (rs := [10]) (by kernel_rfl) (by simp) ?_
  refine AllReadyH.cons (o := { dst := some 49, op := Op.call { callee := Callee.value (Operand.func 17), args := #[Operand.tmp 42, Operand.tmp 44, Operand.tmp 46, Operand.tmp 48], argTypes := #[32, 38, 38, 39] }, type := 29, pos := "law.go:63", after := #[{ on := 3, ground := Ground.data }, { on := 5, ground := Ground.data }, { on := 7, ground := Ground.data }, { on := 9, ground := Ground.data }], guard := none }) rfl (fun K hK => ?_) AllReadyH.nil
  go_simp
  refine Calls.mono HD2.out ?_
  rintro _ w2 ⟨er2, own2, V2, L2, rfl, hq2, hs2, hc2⟩
  have hs2 := (Stp.new (own := own1) (p := p) ((Kept.refl w1 _).drewN 1)).trans hs2
  have H2 : Hid (SnQ w2 own2 p { R with v := v1, l := l1, V := V2, L := L2 } bx gi on f t ba bc bs pl k xx ∧ Stp wa w2 owna own2 p) := ⟨H1.out.1.stp hq2 hs2, H1.out.2.trans hs2⟩
  obtain ⟨hee, hal2, hll2⟩ := snd_both HP.out.1 HC1.out hc2
  subst hee
  have HE2 : Hid (AlikeG (l1.map MsD.gd) L2 ∧ l1.length ≤ R.l.length + 1) := ⟨hal2, hll2⟩
  have S2 : BxQ w2 R bx f t (.slice ba bs.length bc) pl k xx := (BxQ.of H2.out.1.pq H2.out.1.bo).re rfl rfl rfl rfl rfl
  clear hq2 hs2 hc2 hHeld hal2 hll2
  refine hK.out _ _ S2 (fun hHeld => ?_)
  clear hK K
  refine wpAnyH_take (i := 11) (oi := { dst := some 7, op := Op.assign (Operand.tmp 49), type := 29, pos := "law.go:63", after := #[{ on := 10, ground := Ground.data }, { on := 10, ground := Ground.chain }, { on := 0, ground := Ground.phase }, { on := 1, ground := Ground.phase }, { on := 2, ground := Ground.phase }, { on := 3, ground := Ground.phase }, { on := 4, ground := Ground.phase }, { on := 5, ground := Ground.phase }, { on := 6, ground := Ground.phase }, { on := 7, ground := Ground.phase }, { on := 8, ground := Ground.phase }, { on := 9, ground := Ground.phase }, { on := 10, ground := Ground.phase }], guard := none }) (v := ?_) rfl (by kernel_rfl) (by kernel_rfl) (by kernel_rfl) (fun _ _ _ h => h) (Or.inl ⟨by rfl, ?_⟩) (by assumption) ?_
  rotate_left
  · (intro w hSw; (try dsimp only at hSw); obtain ⟨x0, x1, x2, x3, o2, o3, o4, o5, o6, o7, zx, zb⟩ := hSw; go_simp) <;> with_reducible rfl
  try simp only [Act.put, List.setIfInBounds_toArray, List.set_cons_zero, List.set_cons_succ]
  refine wpAnyH_done (by kernel_rfl) ?_ _
  clear hHeld
  have HEQ : Hid (Calls Tryd.prog 14 #[.slice (some ⟨gi, 0, none⟩) bs.length (bs.length + 64), .slice ba bs.length bc] w2 fun e w' => e = .returned (.bool true) ∧ ∃ n, w' = w2.drewN n) := by
    refine (eqBytes_any _ _ bs bs w2 H2.out.1.si H2.out.1.se).mono ?_
    rintro e w' ⟨rfl, hn⟩
    exact ⟨by simp, hn⟩
  obtain ⟨x0, x1, x2, x3, o2, o3, o4, o5, o6, o7, zx, zb⟩ := (BxQ.of H2.out.1.pq H2.out.1.bo)
  go_wp2_with fail
  refine Calls.mono HEQ.out ?_
  rintro _ w3 ⟨rfl, nn, rfl⟩
  have HSP : Hid _ := spareBytes_any gi bs (wide bs) (w2.drewN nn) H2.out.1.wi (wide_len bs) (fun j h1 h2 => by rw [wide_nth bs j h2, if_neg (by omega)]) (by omega)
  clear HEQ
  go_wp2_with fail
  refine Calls.mono HSP.out ?_
  rintro _ w3 ⟨rfl, rfl⟩
  have HSO : Hid _ := spoil_anyQ (n := bs.length) (w2.drewN nn) H2.out.1.wi (by rw [wide_len]; omega) (by omega)
  clear HSP x0 x1 x2 x3 o2 o3 o4 o5 o6 o7 zx zb
  go_wp2_with fail
  refine Calls.mono HSO.out ?_
  rintro _ w4 ⟨rfl, hk4⟩
  have hee : (er == er) = true := by simp
  have HE : Hid (DoQ W0 w4 own0 p R) := by
    have hk : Kept w2 w4 (fun k => k = gi) := ((Kept.refl w2 _).drewN nn).trans hk4 (fun _ _ e => e)
    have hst := HSA.out.2.trans H2.out.2
    exact ⟨own2, _, H2.out.1.pq.keep hk (fun k _ e => .inl (by rw [e]; exact H2.out.1.wi')) (fun _ _ _ => rfl), HE2.out.1, HP.out.2, rfl, HE2.out.2, by show R.K.length ≤ _; omega, ⟨hst.kept.trans hk (fun k hkl e => by have := HGI.out; omega), hst.old⟩⟩
  clear hk4 HSO
  go_wp2
  go_ret
  exact ⟨rfl, HOut.out _ HE.out⟩

end
end Go.Proofs.YtghngopclhhoeaaDoor
