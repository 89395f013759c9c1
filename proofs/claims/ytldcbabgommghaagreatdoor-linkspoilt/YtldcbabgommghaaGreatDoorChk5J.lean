/- What isBounded of package txn answers, for every request. -/
import Derived.Test.YtldcbabgommghaaGreatDoorChk8J
import Derived.Test.YtldcbabgommghaaGreatDoorChk2J
import Derived.Test.YtldcbabgommghaaGreatDoorEqQJ
namespace Go.Proofs.YtldcbabgommghaaGreatDoor
open Go.RowKit
set_option maxRecDepth 8000

/-- What isBounded asks ahead of the Ops. -/
def bdOk (f : RqF) : Bool := decide (f.path.size ≤ 64) && decide (f.data.length ≤ 96) && aclOk f.acl && decide (0 ≤ f.ses) && decide (0 ≤ f.tmo) && decide (f.tmo ≤ 1000) && whoOk f.who

theorem isBounded_any (f : RqF) (n : Nat) (ops : Fin n → Rq) (dv av wv ov : Value) (oc : Fin n → List Value) (p : Fin n → Bool) (w : World)
    (hd : Sees w dv f.data) (ha : SeesR w av 3 (f.acl.map EnD.cells)) (hw : SeesR w wv 2 (f.who.map IdD.cells)) (ho : SeesR w ov 11 (List.ofFn oc)) (hs : ∀ i : Fin n, SeesRq w (oc i) (ops i)) (hn : n ≤ 140737488355328)
    (hc : ∀ i (W : World), Below w.heap.size w W → Calls Tryz.prog 138 #[lay 5 320, .agg (oc i).toArray] W fun r W' => r = .returned (.bool (p i)) ∧ Below W.heap.size W W') :
    Calls Tryz.prog 146 #[.agg (rqCells f dv av wv ov).toArray] w fun r w' => r = .returned (.bool (bdOk f && (decide ((n : Int) ≤ 8) && (List.ofFn p).all id))) ∧ Below w.heap.size w w' := by
  by_cases hok : f.path.size ≤ 64 ∧ f.data.length ≤ 96 ∧ aclOk f.acl = true ∧ 0 ≤ f.ses ∧ 0 ≤ f.tmo ∧ f.tmo ≤ 1000 ∧ whoOk f.who = true
  · obtain ⟨b1, b2, b3, b4, b5, b6, b7⟩ := hok
    have e : bdOk f = true := by simp [bdOk, b1, b2, b3, b4, b5, b6, b7]
    rw [e, Bool.true_and]
    exact isBounded_true f n ops dv av wv ov oc p w hd ha hw ho hs hn hc b1 b2 b3 b4 b5 b6 b7
  · have e : bdOk f = false := by
      by_cases h : bdOk f = true
      · simp only [bdOk, Bool.and_eq_true, decide_eq_true_eq] at h
        exact absurd ⟨h.1.1.1.1.1.1, h.1.1.1.1.1.2, h.1.1.1.1.2, h.1.1.1.2, h.1.1.2, h.1.2, h.2⟩ hok
      · simpa using h
    rw [e, Bool.false_and]
    obtain ⟨kind, path, data, acl, ver, eph, seq, ses, tmo, who⟩ := f
    simp only at hd ha hw hok
    have HA : ∀ W : World, Below w.heap.size w W → Calls Tryz.prog 164 #[av, .int .i64 4, .func (.func 165) #[] #[]] W fun r w' => r = .returned (.bool (aclOk acl)) ∧ Below W.heap.size W w' := fun W hW => isListE_any av acl 4 W (ha.below hW (Nat.le_refl _))
    have HW : ∀ W : World, Below w.heap.size w W → Calls Tryz.prog 166 #[wv, .int .i64 4, .func (.func 167) #[] #[]] W fun r w' => r = .returned (.bool (whoOk who)) ∧ Below W.heap.size W w' := fun W hW => isListI_any wv who 4 W (hw.below hW (Nat.le_refl _))
    obtain ⟨da, dc, rfl, _⟩ := id hd
    obtain ⟨aa, al, ac, rfl⟩ := seesR_form ha
    obtain ⟨wa, wl, wc, rfl⟩ := seesR_form hw
    obtain ⟨oa, ol, occ, rfl⟩ := seesR_form ho
    have HL : BdL w aa wa al ac wl wc (aclOk acl) (whoOk who) := ⟨HA, HW⟩
    clear HA HW hd ha hw ho hs hc hn e
    generalize aclOk acl = qa at *
    generalize whoOk who = qw at *
    by_cases b1 : path.size ≤ 64
    · by_cases b2 : data.length ≤ 96
      · cases qa
        · exact bd_3 kind path da aa wa oa data.length dc al ac wl wc ol occ ver eph seq ses tmo false qw w HL b1 b2 rfl
        · by_cases b4 : 0 ≤ ses
          · by_cases b5 : 0 ≤ tmo
            · by_cases b6 : tmo ≤ 1000
              · cases qw
                · exact bd_7 kind path da aa wa oa data.length dc al ac wl wc ol occ ver eph seq ses tmo true false w HL b1 b2 rfl b4 b5 b6 rfl
                · exact absurd ⟨b1, b2, rfl, b4, b5, b6, rfl⟩ hok
              · exact bd_6 kind path da aa wa oa data.length dc al ac wl wc ol occ ver eph seq ses tmo true qw w HL b1 b2 rfl b4 b5 (by omega)
            · exact bd_5 kind path da aa wa oa data.length dc al ac wl wc ol occ ver eph seq ses tmo true qw w HL b1 b2 rfl b4 (by omega)
          · exact bd_4 kind path da aa wa oa data.length dc al ac wl wc ol occ ver eph seq ses tmo true qw w HL b1 b2 rfl (by omega)
      · exact bd_2 kind path da aa wa oa data.length dc al ac wl wc ol occ ver eph seq ses tmo qa qw w HL b1 (by omega)
    · exact bd_1 kind path da aa wa oa data.length dc al ac wl wc ol occ ver eph seq ses tmo qa qw w HL (by omega)
end Go.Proofs.YtldcbabgommghaaGreatDoor

/- What mayBe of package txn answers, for every request: by its bits, and by isBounded's answer. -/
namespace Go.Proofs.YtldcbabgommghaaGreatDoor
open Go.RowKit
set_option maxRecDepth 8000

theorem keep13 {W W' : World} {N : Nat} {l0 l1 r0 r1 r2 r3 r4 r5 r6 r7 r8 r9 r10 : Value} (hb : Below W.heap.size W W') (h : W.cell? ⟨N, 0, none⟩ = some l0 ∧ W.cell? ⟨N, 1, none⟩ = some l1 ∧ W.cell? ⟨(N + 1), 0, none⟩ = some r0 ∧ W.cell? ⟨(N + 1), 1, none⟩ = some r1 ∧ W.cell? ⟨(N + 1), 2, none⟩ = some r2 ∧ W.cell? ⟨(N + 1), 3, none⟩ = some r3 ∧ W.cell? ⟨(N + 1), 4, none⟩ = some r4 ∧ W.cell? ⟨(N + 1), 5, none⟩ = some r5 ∧ W.cell? ⟨(N + 1), 6, none⟩ = some r6 ∧ W.cell? ⟨(N + 1), 7, none⟩ = some r7 ∧ W.cell? ⟨(N + 1), 8, none⟩ = some r8 ∧ W.cell? ⟨(N + 1), 9, none⟩ = some r9 ∧ W.cell? ⟨(N + 1), 10, none⟩ = some r10) :
    W'.cell? ⟨N, 0, none⟩ = some l0 ∧ W'.cell? ⟨N, 1, none⟩ = some l1 ∧ W'.cell? ⟨(N + 1), 0, none⟩ = some r0 ∧ W'.cell? ⟨(N + 1), 1, none⟩ = some r1 ∧ W'.cell? ⟨(N + 1), 2, none⟩ = some r2 ∧ W'.cell? ⟨(N + 1), 3, none⟩ = some r3 ∧ W'.cell? ⟨(N + 1), 4, none⟩ = some r4 ∧ W'.cell? ⟨(N + 1), 5, none⟩ = some r5 ∧ W'.cell? ⟨(N + 1), 6, none⟩ = some r6 ∧ W'.cell? ⟨(N + 1), 7, none⟩ = some r7 ∧ W'.cell? ⟨(N + 1), 8, none⟩ = some r8 ∧ W'.cell? ⟨(N + 1), 9, none⟩ = some r9 ∧ W'.cell? ⟨(N + 1), 10, none⟩ = some r10 :=
  ⟨cell_later h.1 hb (Nat.le_refl _), cell_later h.2.1 hb (Nat.le_refl _), cell_later h.2.2.1 hb (Nat.le_refl _), cell_later h.2.2.2.1 hb (Nat.le_refl _), cell_later h.2.2.2.2.1 hb (Nat.le_refl _), cell_later h.2.2.2.2.2.1 hb (Nat.le_refl _), cell_later h.2.2.2.2.2.2.1 hb (Nat.le_refl _), cell_later h.2.2.2.2.2.2.2.1 hb (Nat.le_refl _), cell_later h.2.2.2.2.2.2.2.2.1 hb (Nat.le_refl _), cell_later h.2.2.2.2.2.2.2.2.2.1 hb (Nat.le_refl _), cell_later h.2.2.2.2.2.2.2.2.2.2.1 hb (Nat.le_refl _), cell_later h.2.2.2.2.2.2.2.2.2.2.2.1 hb (Nat.le_refl _), cell_later h.2.2.2.2.2.2.2.2.2.2.2.2 hb (Nat.le_refl _)⟩

set_option maxHeartbeats 2000000 in
theorem mayBe_bits (last wo k : Int) (s : ByteArray) (da aa wa oa : Option Addr) (dl dc al ac wl wc ol oc : Nat) (ver : Int) (eph seq : Bool) (ses tmo : Int) (x z : Int) (q : Bool) (w : World) (hn : Nam w) (hl : last ≤ 12)
    (hx : nms last wo k = x) (hz : fillz (!s.toList.isEmpty) (decide (0 < dl)) (decide (0 < al)) (ver != 0) eph seq (ses != 0) (tmo != 0) (decide (0 < wl)) (decide (0 < ol)) = z)
    (hb : ∀ W : World, Below w.heap.size w W → Calls Tryz.prog 146 #[.agg #[.int .i8 k, .string s, .slice da dl dc, .slice aa al ac, .int .i32 ver, .bool eph, .bool seq, .int .i64 ses, .int .i32 tmo, .slice wa wl wc, .slice oa ol oc]] W fun r W' => r = .returned (.bool q) ∧ Below W.heap.size W W') :
    Calls Tryz.prog 138 #[lay last wo, .agg #[.int .i8 k, .string s, .slice da dl dc, .slice aa al ac, .int .i32 ver, .bool eph, .bool seq, .int .i64 ses, .int .i32 tmo, .slice wa wl wc, .slice oa ol oc]] w
      fun r w' => r = .returned (.bool ((x != 0) && (bits .andNot .u16 z x == 0) && (bits .andNot .u16 (need k) z == 0) && q)) ∧ Below w.heap.size w w' := by
  have HX : Hid (∀ W : World, Nam W → Calls Tryz.prog 143 #[lay last wo, .int .i8 k] W fun r w' => r = .returned (.int .u16 x) ∧ Below W.heap.size W w') := fun W h => by
    rw [← hx]; exact names_any last wo k W h hl
  have HZ : Hid (∀ W : World, Calls Tryz.prog 144 #[.agg #[.int .i8 k, .string s, .slice da dl dc, .slice aa al ac, .int .i32 ver, .bool eph, .bool seq, .int .i64 ses, .int .i32 tmo, .slice wa wl wc, .slice oa ol oc]] W fun r w' => r = .returned (.int .u16 z) ∧ Below W.heap.size W w') := fun W => by
    rw [← hz]; exact filled_any k s da aa wa oa dl dc al ac wl wc ol oc ver eph seq ses tmo W
  have HB : Hid _ := hb
  have HN : Hid (∀ W, Below w.heap.size w W → Nam W) := fun W h => hn.below h hn.lt
  have HL : Hid (∀ o o' : Obj, Below w.heap.size w ((w.alloc o).alloc o').drew) := fun o o' => below_drewN (two_alloc w o o') 1
  clear hx hz hb hn
  go_enter Tryz.func138, Tryz.ntmps138
  go_wp2_with fail
  generalize eW0 : ((w.alloc (.cells #[.int .i8 last, .int .u16 wo] 153)).alloc (.cells #[.int .i8 k, .string s, .slice da dl dc, .slice aa al ac, .int .i32 ver, .bool eph, .bool seq, .int .i64 ses, .int .i32 tmo, .slice wa wl wc, .slice oa ol oc] 35)) = W0
  have k0 : W0.drew.cell? ⟨w.heap.size, 0, none⟩ = some (.int .i8 last) ∧ W0.drew.cell? ⟨w.heap.size, 1, none⟩ = some (.int .u16 wo) ∧ W0.drew.cell? ⟨(w.heap.size + 1), 0, none⟩ = some (.int .i8 k) ∧ W0.drew.cell? ⟨(w.heap.size + 1), 1, none⟩ = some (.string s) ∧ W0.drew.cell? ⟨(w.heap.size + 1), 2, none⟩ = some (.slice da dl dc) ∧ W0.drew.cell? ⟨(w.heap.size + 1), 3, none⟩ = some (.slice aa al ac) ∧ W0.drew.cell? ⟨(w.heap.size + 1), 4, none⟩ = some (.int .i32 ver) ∧ W0.drew.cell? ⟨(w.heap.size + 1), 5, none⟩ = some (.bool eph) ∧ W0.drew.cell? ⟨(w.heap.size + 1), 6, none⟩ = some (.bool seq) ∧ W0.drew.cell? ⟨(w.heap.size + 1), 7, none⟩ = some (.int .i64 ses) ∧ W0.drew.cell? ⟨(w.heap.size + 1), 8, none⟩ = some (.int .i32 tmo) ∧ W0.drew.cell? ⟨(w.heap.size + 1), 9, none⟩ = some (.slice wa wl wc) ∧ W0.drew.cell? ⟨(w.heap.size + 1), 10, none⟩ = some (.slice oa ol oc) := by
    subst eW0
    refine ⟨?_, ?_, ?_, ?_, ?_, ?_, ?_, ?_, ?_, ?_, ?_, ?_, ?_⟩
    iterate 2 (show World.cell? ((w.alloc _).alloc _) _ = _; rw [World.cell?_alloc_lt _ _ _ (by simp), cell_of_row _ _ _ _ _ _ (heap_alloc_new _ _)]; rfl)
    all_goals (show World.cell? ((w.alloc _).alloc _) _ = _; rw [cell_of_row _ _ _ _ _ _ (by have := heap_alloc_new (w.alloc (.cells #[.int .i8 last, .int .u16 wo] 153)) (.cells #[.int .i8 k, .string s, .slice da dl dc, .slice aa al ac, .int .i32 ver, .bool eph, .bool seq, .int .i64 ses, .int .i32 tmo, .slice wa wl wc, .slice oa ol oc] 35 (0, 0)); simpa using this)]; rfl)
  have g0 : Below w.heap.size w W0.drew := by subst eW0; exact HL.out _ _
  have HG0 : Hid (Below w.heap.size w W0.drew) := g0
  clear HL eW0 g0
  go_region_held (fun w' => w'.cell? ⟨w.heap.size, 0, none⟩ = some (.int .i8 last) ∧ w'.cell? ⟨w.heap.size, 1, none⟩ = some (.int .u16 wo) ∧ w'.cell? ⟨(w.heap.size + 1), 0, none⟩ = some (.int .i8 k) ∧ w'.cell? ⟨(w.heap.size + 1), 1, none⟩ = some (.string s) ∧ w'.cell? ⟨(w.heap.size + 1), 2, none⟩ = some (.slice da dl dc) ∧ w'.cell? ⟨(w.heap.size + 1), 3, none⟩ = some (.slice aa al ac) ∧ w'.cell? ⟨(w.heap.size + 1), 4, none⟩ = some (.int .i32 ver) ∧ w'.cell? ⟨(w.heap.size + 1), 5, none⟩ = some (.bool eph) ∧ w'.cell? ⟨(w.heap.size + 1), 6, none⟩ = some (.bool seq) ∧ w'.cell? ⟨(w.heap.size + 1), 7, none⟩ = some (.int .i64 ses) ∧ w'.cell? ⟨(w.heap.size + 1), 8, none⟩ = some (.int .i32 tmo) ∧ w'.cell? ⟨(w.heap.size + 1), 9, none⟩ = some (.slice wa wl wc) ∧ w'.cell? ⟨(w.heap.size + 1), 10, none⟩ = some (.slice oa ol oc)) (first | exact k0 | exact k1 | exact k2)
    (first
    | (go_at_call 143; refine (HX.out _ (HN.out _ HG0.out)).mono ?_; rintro r w1 ⟨rfl, g1⟩; have HG1 : Hid (Below w.heap.size w w1) := HG0.out.trans (g1.mono HG0.out.size); have k1 := keep13 g1 k0; clear k0 HG0 g1)
    | (go_at_call 144; refine (HZ.out _).mono ?_; rintro r w2 ⟨rfl, g1⟩; have HG2 : Hid (Below w.heap.size w w2) := HG1.out.trans (g1.mono HG1.out.size); have k2 := keep13 g1 k1; clear k1 HG1 g1))
  clear HX HZ HN
  go_wp2_with fail
  · go_ret
    refine ⟨?_, HG2.out⟩
    have h : x = 0 := by assumption
    rw [h]; rfl
  · refine (needed_any k _).mono ?_
    rintro r w3 ⟨rfl, rfl⟩
    by_cases h3 : bits .andNot .u16 (need k) z = 0
    · go_wp2_with fail
      refine (HB.out _ HG2.out).mono ?_
      rintro r w4 ⟨rfl, g4⟩
      have HG4 : Hid (Below w.heap.size w w4) := HG2.out.trans (g4.mono HG2.out.size)
      clear g4 k2 HG2
      go_wp2
      go_ret
      refine ⟨?_, HG4.out⟩
      have h1 : (x != 0) = true := by simp; assumption
      have h2 : bits .andNot .u16 z x = 0 := by assumption
      rw [h1]
      simp [h2, h3]
    · go_wp2_with fail
      go_ret
      refine ⟨?_, HG2.out⟩
      simp [h3]
  · go_ret
    refine ⟨?_, HG2.out⟩
    have h2 : ¬ bits .andNot .u16 z x = 0 := by assumption
    simp [h2]
end Go.Proofs.YtldcbabgommghaaGreatDoor

/- What mayBe of package txn answers, for every request at every place. -/
namespace Go.Proofs.YtldcbabgommghaaGreatDoor
open Go.RowKit
set_option maxRecDepth 8000

/-- What of a request is not zero. -/
def fz (f : RqF) (n : Nat) : Int := fillz (!f.path.toList.isEmpty) (decide (0 < f.data.length)) (decide (0 < f.acl.length)) (f.ver != 0) f.eph f.seq (f.ses != 0) (f.tmo != 0) (decide (0 < f.who.length)) (decide (0 < n))

/-- May a request stand there, its Ops aside? -/
def flatOk (last wo : Int) (f : RqF) (n : Nat) : Bool :=
  (nms last wo f.kind != 0) && (bits .andNot .u16 (fz f n) (nms last wo f.kind) == 0) && (bits .andNot .u16 (need f.kind) (fz f n) == 0)

/-- May a request stand in a Multi? -/
def Rq.inOk : Rq → Bool
  | .mk f n ops => flatOk 5 320 f n && (bdOk f && (decide ((n : Int) ≤ 8) && (List.ofFn fun i : Fin n => (ops i).inOk).all id))

def mayP (last wo : Int) : Rq → Bool
  | .mk f n ops => flatOk last wo f n && (bdOk f && (decide ((n : Int) ≤ 8) && (List.ofFn fun i : Fin n => (ops i).inOk).all id))

theorem mayP_in (r : Rq) : mayP 5 320 r = r.inOk := by
  cases r with
  | mk f n ops => rfl

theorem good_inv {f : RqF} {n : Nat} {ops : Fin n → Rq} (h : (Rq.mk f n ops).good) : f.good ∧ n ≤ 140737488355328 ∧ ∀ i : Fin n, (ops i).good := h

theorem mayBe_any (r : Rq) : ∀ (last wo : Int) (cs : List Value) (w : World), last ≤ 12 → SeesRq w cs r → r.good → Nam w →
    Calls Tryz.prog 138 #[lay last wo, .agg cs.toArray] w fun e w' => e = .returned (.bool (mayP last wo r)) ∧ Below w.heap.size w w' := by
  induction r with
  | mk f n ops ih =>
    intro last wo cs w hl hcs hgd hn
    obtain ⟨dv, av, wv, ov, oc, rfl, hd, ha, hw, ho, hs⟩ := rq_inv hcs
    obtain ⟨_, gn, gops⟩ := good_inv hgd
    have HB : ∀ W : World, Below w.heap.size w W → Calls Tryz.prog 146 #[.agg (rqCells f dv av wv ov).toArray] W fun r w' => r = .returned (.bool (bdOk f && (decide ((n : Int) ≤ 8) && (List.ofFn fun i : Fin n => (ops i).inOk).all id))) ∧ Below W.heap.size W w' := fun W hW =>
      isBounded_any f n ops dv av wv ov oc (fun i => (ops i).inOk) W (hd.below hW (Nat.le_refl _)) (ha.below hW (Nat.le_refl _)) (hw.below hW (Nat.le_refl _)) (ho.below hW (Nat.le_refl _)) (fun i => (hs i).later hW (Nat.le_refl _)) gn
        (fun i V hV => by
          have hb := hW.trans (hV.mono hW.size)
          have := ih i 5 320 (oc i) V (by omega) ((hs i).later hb (Nat.le_refl _)) (gops i) (hn.below hb hn.lt)
          rw [mayP_in] at this
          exact this)
    obtain ⟨kind, path, data, acl, ver, eph, seq, ses, tmo, who⟩ := f
    simp only at hd ha hw
    obtain ⟨da, dc, rfl, _⟩ := id hd
    obtain ⟨aa, ac, e1⟩ := seesR_shape ha
    obtain ⟨wa, wc', e2⟩ := seesR_shape hw
    obtain ⟨oa, occ, e3⟩ := seesR_shape ho
    rw [List.length_map] at e1 e2
    rw [List.length_ofFn] at e3
    subst e1 e2 e3
    have := mayBe_bits last wo kind path da aa wa oa data.length dc acl.length ac who.length wc' n occ ver eph seq ses tmo (nms last wo kind) (fz ⟨kind, path, data, acl, ver, eph, seq, ses, tmo, who⟩ n) _ w hn hl rfl rfl HB
    exact this
end Go.Proofs.YtldcbabgommghaaGreatDoor

/- What txn.Check answers where the zxid and the origin may be: by mayBe's answer. -/
namespace Go.Proofs.YtldcbabgommghaaGreatDoor
open Go.RowKit
set_option maxRecDepth 8000

theorem keep16 {W W' : World} {N : Nat} {r0 r1 r2 r3 r4 r5 r6 r7 r8 r9 r10 r11 r12 r13 r14 r15 : Value} (hb : Below W.heap.size W W') (h : W.cell? ⟨N, 0, none⟩ = some r0 ∧ W.cell? ⟨N, 1, none⟩ = some r1 ∧ W.cell? ⟨N, 2, none⟩ = some r2 ∧ W.cell? ⟨N, 3, none⟩ = some r3 ∧ W.cell? ⟨N, 4, none⟩ = some r4 ∧ W.cell? ⟨N, 5, none⟩ = some r5 ∧ W.cell? ⟨N, 6, none⟩ = some r6 ∧ W.cell? ⟨N, 7, none⟩ = some r7 ∧ W.cell? ⟨N, 8, none⟩ = some r8 ∧ W.cell? ⟨N, 9, none⟩ = some r9 ∧ W.cell? ⟨N, 10, none⟩ = some r10 ∧ W.cell? ⟨N, 11, none⟩ = some r11 ∧ W.cell? ⟨N, 12, none⟩ = some r12 ∧ W.cell? ⟨N, 13, none⟩ = some r13 ∧ W.cell? ⟨N, 14, none⟩ = some r14 ∧ W.cell? ⟨N, 15, none⟩ = some r15) :
    W'.cell? ⟨N, 0, none⟩ = some r0 ∧ W'.cell? ⟨N, 1, none⟩ = some r1 ∧ W'.cell? ⟨N, 2, none⟩ = some r2 ∧ W'.cell? ⟨N, 3, none⟩ = some r3 ∧ W'.cell? ⟨N, 4, none⟩ = some r4 ∧ W'.cell? ⟨N, 5, none⟩ = some r5 ∧ W'.cell? ⟨N, 6, none⟩ = some r6 ∧ W'.cell? ⟨N, 7, none⟩ = some r7 ∧ W'.cell? ⟨N, 8, none⟩ = some r8 ∧ W'.cell? ⟨N, 9, none⟩ = some r9 ∧ W'.cell? ⟨N, 10, none⟩ = some r10 ∧ W'.cell? ⟨N, 11, none⟩ = some r11 ∧ W'.cell? ⟨N, 12, none⟩ = some r12 ∧ W'.cell? ⟨N, 13, none⟩ = some r13 ∧ W'.cell? ⟨N, 14, none⟩ = some r14 ∧ W'.cell? ⟨N, 15, none⟩ = some r15 :=
  ⟨cell_later h.1 hb (Nat.le_refl _), cell_later h.2.1 hb (Nat.le_refl _), cell_later h.2.2.1 hb (Nat.le_refl _), cell_later h.2.2.2.1 hb (Nat.le_refl _), cell_later h.2.2.2.2.1 hb (Nat.le_refl _), cell_later h.2.2.2.2.2.1 hb (Nat.le_refl _), cell_later h.2.2.2.2.2.2.1 hb (Nat.le_refl _), cell_later h.2.2.2.2.2.2.2.1 hb (Nat.le_refl _), cell_later h.2.2.2.2.2.2.2.2.1 hb (Nat.le_refl _), cell_later h.2.2.2.2.2.2.2.2.2.1 hb (Nat.le_refl _), cell_later h.2.2.2.2.2.2.2.2.2.2.1 hb (Nat.le_refl _), cell_later h.2.2.2.2.2.2.2.2.2.2.2.1 hb (Nat.le_refl _), cell_later h.2.2.2.2.2.2.2.2.2.2.2.2.1 hb (Nat.le_refl _), cell_later h.2.2.2.2.2.2.2.2.2.2.2.2.2.1 hb (Nat.le_refl _), cell_later h.2.2.2.2.2.2.2.2.2.2.2.2.2.2.1 hb (Nat.le_refl _), cell_later h.2.2.2.2.2.2.2.2.2.2.2.2.2.2.2 hb (Nat.le_refl _)⟩

set_option maxHeartbeats 2000000 in
theorem check_ok (e n sv bt nm k : Int) (s : ByteArray) (da aa wa oa : Option Addr) (dl dc al ac wl wc ol oc : Nat) (ver : Int) (eph seq : Bool) (ses tmo : Int) (q : Bool) (w : World) (h0 : 0 ≤ e) (h2 : 0 ≤ n)
    (hz : zxOk e n = true) (hO : origOk sv nm = true)
    (hb : ∀ W : World, Below w.heap.size w W → Calls Tryz.prog 138 #[lay 8 0, .agg #[.int .i8 k, .string s, .slice da dl dc, .slice aa al ac, .int .i32 ver, .bool eph, .bool seq, .int .i64 ses, .int .i32 tmo, .slice wa wl wc, .slice oa ol oc]] W fun r W' => r = .returned (.bool q) ∧ Below W.heap.size W W') :
    Calls Tryz.prog 128 #[.agg #[.int .u32 e, .int .u32 n, .int .i8 sv, .int .u32 bt, .int .i64 nm, .int .i8 k, .string s, .slice da dl dc, .slice aa al ac, .int .i32 ver, .bool eph, .bool seq, .int .i64 ses, .int .i32 tmo, .slice wa wl wc, .slice oa ol oc]] w fun r w' => r = .returned (.int .i64 (if q then 0 else 40)) ∧ Below w.heap.size w w' := by
  have HZ : Hid (∀ W : World, Calls Tryz.prog 135 #[.agg #[.int .u32 e, .int .u32 n]] W fun r w' => r = .returned (.bool true) ∧ Below W.heap.size W w') := fun W => by
    rw [← hz]; exact isZxid_any e n W h0 h2
  have HO : Hid (∀ W : World, Calls Tryz.prog 136 #[.agg #[.int .i8 sv, .int .u32 bt, .int .i64 nm]] W fun r w' => r = .returned (.bool true) ∧ Below W.heap.size W w') := fun W => by
    rw [← hO]; exact isOrigin_any sv bt nm W
  have HB : Hid _ := hb
  have HL : Hid (∀ o : Obj, Below w.heap.size w (w.alloc o).drew) := fun o => below_drewN (one_alloc w o) 1
  clear hb hz hO
  go_enter Tryz.func128, Tryz.ntmps128
  go_wp2_with fail
  generalize eW0 : (w.alloc (.cells #[.int .u32 e, .int .u32 n, .int .i8 sv, .int .u32 bt, .int .i64 nm, .int .i8 k, .string s, .slice da dl dc, .slice aa al ac, .int .i32 ver, .bool eph, .bool seq, .int .i64 ses, .int .i32 tmo, .slice wa wl wc, .slice oa ol oc] 37)) = W0
  have k0 : W0.drew.cell? ⟨w.heap.size, 0, none⟩ = some (.int .u32 e) ∧ W0.drew.cell? ⟨w.heap.size, 1, none⟩ = some (.int .u32 n) ∧ W0.drew.cell? ⟨w.heap.size, 2, none⟩ = some (.int .i8 sv) ∧ W0.drew.cell? ⟨w.heap.size, 3, none⟩ = some (.int .u32 bt) ∧ W0.drew.cell? ⟨w.heap.size, 4, none⟩ = some (.int .i64 nm) ∧ W0.drew.cell? ⟨w.heap.size, 5, none⟩ = some (.int .i8 k) ∧ W0.drew.cell? ⟨w.heap.size, 6, none⟩ = some (.string s) ∧ W0.drew.cell? ⟨w.heap.size, 7, none⟩ = some (.slice da dl dc) ∧ W0.drew.cell? ⟨w.heap.size, 8, none⟩ = some (.slice aa al ac) ∧ W0.drew.cell? ⟨w.heap.size, 9, none⟩ = some (.int .i32 ver) ∧ W0.drew.cell? ⟨w.heap.size, 10, none⟩ = some (.bool eph) ∧ W0.drew.cell? ⟨w.heap.size, 11, none⟩ = some (.bool seq) ∧ W0.drew.cell? ⟨w.heap.size, 12, none⟩ = some (.int .i64 ses) ∧ W0.drew.cell? ⟨w.heap.size, 13, none⟩ = some (.int .i32 tmo) ∧ W0.drew.cell? ⟨w.heap.size, 14, none⟩ = some (.slice wa wl wc) ∧ W0.drew.cell? ⟨w.heap.size, 15, none⟩ = some (.slice oa ol oc) := by
    subst eW0
    refine ⟨?_, ?_, ?_, ?_, ?_, ?_, ?_, ?_, ?_, ?_, ?_, ?_, ?_, ?_, ?_, ?_⟩ <;> (show World.cell? (w.alloc _) _ = _; rw [cell_of_row _ _ _ _ _ _ (heap_alloc_new _ _)]; rfl)
  have HG0 : Hid (Below w.heap.size w W0.drew) := by subst eW0; exact HL.out _
  clear HL eW0
  go_region_held (fun w' => w'.cell? ⟨w.heap.size, 0, none⟩ = some (.int .u32 e) ∧ w'.cell? ⟨w.heap.size, 1, none⟩ = some (.int .u32 n) ∧ w'.cell? ⟨w.heap.size, 2, none⟩ = some (.int .i8 sv) ∧ w'.cell? ⟨w.heap.size, 3, none⟩ = some (.int .u32 bt) ∧ w'.cell? ⟨w.heap.size, 4, none⟩ = some (.int .i64 nm) ∧ w'.cell? ⟨w.heap.size, 5, none⟩ = some (.int .i8 k) ∧ w'.cell? ⟨w.heap.size, 6, none⟩ = some (.string s) ∧ w'.cell? ⟨w.heap.size, 7, none⟩ = some (.slice da dl dc) ∧ w'.cell? ⟨w.heap.size, 8, none⟩ = some (.slice aa al ac) ∧ w'.cell? ⟨w.heap.size, 9, none⟩ = some (.int .i32 ver) ∧ w'.cell? ⟨w.heap.size, 10, none⟩ = some (.bool eph) ∧ w'.cell? ⟨w.heap.size, 11, none⟩ = some (.bool seq) ∧ w'.cell? ⟨w.heap.size, 12, none⟩ = some (.int .i64 ses) ∧ w'.cell? ⟨w.heap.size, 13, none⟩ = some (.int .i32 tmo) ∧ w'.cell? ⟨w.heap.size, 14, none⟩ = some (.slice wa wl wc) ∧ w'.cell? ⟨w.heap.size, 15, none⟩ = some (.slice oa ol oc)) (first | exact k0 | exact k1 | exact k2 | exact k3 | exact k4)
    (first
    | (go_at_call 135; refine (HZ.out _).mono ?_; rintro r w1 ⟨rfl, g1⟩; have HG1 : Hid (Below w.heap.size w w1) := HG0.out.trans (g1.mono HG0.out.size); have k1 := keep16 g1 k0; clear k0 HG0 g1)
    | (go_at_call 136; refine (HO.out _).mono ?_; rintro r w2 ⟨rfl, g2⟩; have HG2 : Hid (Below w.heap.size w w2) := HG1.out.trans (g2.mono HG1.out.size); have k2 := keep16 g2 k1; clear k1 HG1 g2)
    | (go_at_call 137; refine (proposed_any _).mono ?_; rintro r w3 ⟨rfl, g3⟩; have HG3 : Hid (Below w.heap.size w w3) := HG2.out.trans (g3.mono HG2.out.size); have k3 := keep16 g3 k2; clear k2 HG2 g3)
    | (go_at_call 138; refine (HB.out _ HG3.out).mono ?_; rintro r w4 ⟨rfl, g4⟩; have HG4 : Hid (Below w.heap.size w w4) := HG3.out.trans (g4.mono HG3.out.size); have k4 := keep16 g4 k3; clear k3 HG3 g4))
  cases q
  all_goals (go_wp2; go_ret; exact ⟨rfl, HG4.out⟩)
end Go.Proofs.YtldcbabgommghaaGreatDoor
