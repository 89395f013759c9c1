/- What mayBe of package txn answers, for every request: by its bits, and by isBounded's answer. -/
import Derived.Test.YtljghfglabgckaaDoorChkJ
import Derived.Test.YtljghfglabgckaaDoorChk9J
import Derived.Test.YtljghfglabgckaaDoorEqQJ
namespace Go.Proofs.YtljghfglabgckaaDoor
open Go.RowKit
set_option maxRecDepth 8000

theorem keep13 {W W' : World} {N : Nat} {l0 l1 r0 r1 r2 r3 r4 r5 r6 r7 r8 r9 r10 : Value} (hb : Below W.heap.size W W') (h : W.cell? ⟨N, 0, none⟩ = some l0 ∧ W.cell? ⟨N, 1, none⟩ = some l1 ∧ W.cell? ⟨(N + 1), 0, none⟩ = some r0 ∧ W.cell? ⟨(N + 1), 1, none⟩ = some r1 ∧ W.cell? ⟨(N + 1), 2, none⟩ = some r2 ∧ W.cell? ⟨(N + 1), 3, none⟩ = some r3 ∧ W.cell? ⟨(N + 1), 4, none⟩ = some r4 ∧ W.cell? ⟨(N + 1), 5, none⟩ = some r5 ∧ W.cell? ⟨(N + 1), 6, none⟩ = some r6 ∧ W.cell? ⟨(N + 1), 7, none⟩ = some r7 ∧ W.cell? ⟨(N + 1), 8, none⟩ = some r8 ∧ W.cell? ⟨(N + 1), 9, none⟩ = some r9 ∧ W.cell? ⟨(N + 1), 10, none⟩ = some r10) :
    W'.cell? ⟨N, 0, none⟩ = some l0 ∧ W'.cell? ⟨N, 1, none⟩ = some l1 ∧ W'.cell? ⟨(N + 1), 0, none⟩ = some r0 ∧ W'.cell? ⟨(N + 1), 1, none⟩ = some r1 ∧ W'.cell? ⟨(N + 1), 2, none⟩ = some r2 ∧ W'.cell? ⟨(N + 1), 3, none⟩ = some r3 ∧ W'.cell? ⟨(N + 1), 4, none⟩ = some r4 ∧ W'.cell? ⟨(N + 1), 5, none⟩ = some r5 ∧ W'.cell? ⟨(N + 1), 6, none⟩ = some r6 ∧ W'.cell? ⟨(N + 1), 7, none⟩ = some r7 ∧ W'.cell? ⟨(N + 1), 8, none⟩ = some r8 ∧ W'.cell? ⟨(N + 1), 9, none⟩ = some r9 ∧ W'.cell? ⟨(N + 1), 10, none⟩ = some r10 :=
  ⟨cell_later h.1 hb (Nat.le_refl _), cell_later h.2.1 hb (Nat.le_refl _), cell_later h.2.2.1 hb (Nat.le_refl _), cell_later h.2.2.2.1 hb (Nat.le_refl _), cell_later h.2.2.2.2.1 hb (Nat.le_refl _), cell_later h.2.2.2.2.2.1 hb (Nat.le_refl _), cell_later h.2.2.2.2.2.2.1 hb (Nat.le_refl _), cell_later h.2.2.2.2.2.2.2.1 hb (Nat.le_refl _), cell_later h.2.2.2.2.2.2.2.2.1 hb (Nat.le_refl _), cell_later h.2.2.2.2.2.2.2.2.2.1 hb (Nat.le_refl _), cell_later h.2.2.2.2.2.2.2.2.2.2.1 hb (Nat.le_refl _), cell_later h.2.2.2.2.2.2.2.2.2.2.2.1 hb (Nat.le_refl _), cell_later h.2.2.2.2.2.2.2.2.2.2.2.2 hb (Nat.le_refl _)⟩

set_option maxHeartbeats 2000000 in
theorem mayBe_bits (last wo k : Int) (s : ByteArray) (da aa wa oa : Option Addr) (dl dc al ac wl wc ol oc : Nat) (ver : Int) (eph seq : Bool) (ses tmo : Int) (x z : Int) (q : Bool) (w : World) (hn : Nam w) (hl : last ≤ 12)
    (hx : nms last wo k = x) (hz : fillz (!s.toList.isEmpty) (decide (0 < dl)) (decide (0 < al)) (ver != 0) eph seq (ses != 0) (tmo != 0) (decide (0 < wl)) (decide (0 < ol)) = z)
    (hb : ∀ W : World, Below w.heap.size w W → Calls Tryd.prog 64 #[.agg #[.int .i8 k, .string s, .slice da dl dc, .slice aa al ac, .int .i32 ver, .bool eph, .bool seq, .int .i64 ses, .int .i32 tmo, .slice wa wl wc, .slice oa ol oc]] W fun r W' => r = .returned (.bool q) ∧ Below W.heap.size W W') :
    Calls Tryd.prog 46 #[lay last wo, .agg #[.int .i8 k, .string s, .slice da dl dc, .slice aa al ac, .int .i32 ver, .bool eph, .bool seq, .int .i64 ses, .int .i32 tmo, .slice wa wl wc, .slice oa ol oc]] w
      fun r w' => r = .returned (.bool ((x != 0) && (bits .andNot .u16 z x == 0) && (bits .andNot .u16 (need k) z == 0) && q)) ∧ Below w.heap.size w w' := by
  have HX : Hid (∀ W : World, Nam W → Calls Tryd.prog 49 #[lay last wo, .int .i8 k] W fun r w' => r = .returned (.int .u16 x) ∧ Below W.heap.size W w') := fun W h => by
    rw [← hx]; exact names_any last wo k W h hl
  have HZ : Hid (∀ W : World, Calls Tryd.prog 62 #[.agg #[.int .i8 k, .string s, .slice da dl dc, .slice aa al ac, .int .i32 ver, .bool eph, .bool seq, .int .i64 ses, .int .i32 tmo, .slice wa wl wc, .slice oa ol oc]] W fun r w' => r = .returned (.int .u16 z) ∧ Below W.heap.size W w') := fun W => by
    rw [← hz]; exact filled_any k s da aa wa oa dl dc al ac wl wc ol oc ver eph seq ses tmo W
  have HB : Hid _ := hb
  have HN : Hid (∀ W, Below w.heap.size w W → Nam W) := fun W h => hn.below h hn.lt
  have HL : Hid (∀ o o' : Obj, Below w.heap.size w ((w.alloc o).alloc o').drew) := fun o o' => below_drewN (two_alloc w o o') 1
  clear hx hz hb hn
  go_enter Tryd.func46, Tryd.ntmps46
  go_wp2_with fail
  generalize eW0 : ((w.alloc (.cells #[.int .i8 last, .int .u16 wo] 79)).alloc (.cells #[.int .i8 k, .string s, .slice da dl dc, .slice aa al ac, .int .i32 ver, .bool eph, .bool seq, .int .i64 ses, .int .i32 tmo, .slice wa wl wc, .slice oa ol oc] 47)) = W0
  have k0 : W0.drew.cell? ⟨w.heap.size, 0, none⟩ = some (.int .i8 last) ∧ W0.drew.cell? ⟨w.heap.size, 1, none⟩ = some (.int .u16 wo) ∧ W0.drew.cell? ⟨(w.heap.size + 1), 0, none⟩ = some (.int .i8 k) ∧ W0.drew.cell? ⟨(w.heap.size + 1), 1, none⟩ = some (.string s) ∧ W0.drew.cell? ⟨(w.heap.size + 1), 2, none⟩ = some (.slice da dl dc) ∧ W0.drew.cell? ⟨(w.heap.size + 1), 3, none⟩ = some (.slice aa al ac) ∧ W0.drew.cell? ⟨(w.heap.size + 1), 4, none⟩ = some (.int .i32 ver) ∧ W0.drew.cell? ⟨(w.heap.size + 1), 5, none⟩ = some (.bool eph) ∧ W0.drew.cell? ⟨(w.heap.size + 1), 6, none⟩ = some (.bool seq) ∧ W0.drew.cell? ⟨(w.heap.size + 1), 7, none⟩ = some (.int .i64 ses) ∧ W0.drew.cell? ⟨(w.heap.size + 1), 8, none⟩ = some (.int .i32 tmo) ∧ W0.drew.cell? ⟨(w.heap.size + 1), 9, none⟩ = some (.slice wa wl wc) ∧ W0.drew.cell? ⟨(w.heap.size + 1), 10, none⟩ = some (.slice oa ol oc) := by
    subst eW0
    refine ⟨?_, ?_, ?_, ?_, ?_, ?_, ?_, ?_, ?_, ?_, ?_, ?_, ?_⟩
    iterate 2 (show World.cell? ((w.alloc _).alloc _) _ = _; rw [World.cell?_alloc_lt _ _ _ (by simp), cell_of_row _ _ _ _ _ _ (heap_alloc_new _ _)]; rfl)
    all_goals (show World.cell? ((w.alloc _).alloc _) _ = _; rw [cell_of_row _ _ _ _ _ _ (by have := heap_alloc_new (w.alloc (.cells #[.int .i8 last, .int .u16 wo] 79)) (.cells #[.int .i8 k, .string s, .slice da dl dc, .slice aa al ac, .int .i32 ver, .bool eph, .bool seq, .int .i64 ses, .int .i32 tmo, .slice wa wl wc, .slice oa ol oc] 47 (0, 0)); simpa using this)]; rfl)
  have g0 : Below w.heap.size w W0.drew := by subst eW0; exact HL.out _ _
  have HG0 : Hid (Below w.heap.size w W0.drew) := g0
  clear HL eW0 g0
  go_region_held (fun w' => w'.cell? ⟨w.heap.size, 0, none⟩ = some (.int .i8 last) ∧ w'.cell? ⟨w.heap.size, 1, none⟩ = some (.int .u16 wo) ∧ w'.cell? ⟨(w.heap.size + 1), 0, none⟩ = some (.int .i8 k) ∧ w'.cell? ⟨(w.heap.size + 1), 1, none⟩ = some (.string s) ∧ w'.cell? ⟨(w.heap.size + 1), 2, none⟩ = some (.slice da dl dc) ∧ w'.cell? ⟨(w.heap.size + 1), 3, none⟩ = some (.slice aa al ac) ∧ w'.cell? ⟨(w.heap.size + 1), 4, none⟩ = some (.int .i32 ver) ∧ w'.cell? ⟨(w.heap.size + 1), 5, none⟩ = some (.bool eph) ∧ w'.cell? ⟨(w.heap.size + 1), 6, none⟩ = some (.bool seq) ∧ w'.cell? ⟨(w.heap.size + 1), 7, none⟩ = some (.int .i64 ses) ∧ w'.cell? ⟨(w.heap.size + 1), 8, none⟩ = some (.int .i32 tmo) ∧ w'.cell? ⟨(w.heap.size + 1), 9, none⟩ = some (.slice wa wl wc) ∧ w'.cell? ⟨(w.heap.size + 1), 10, none⟩ = some (.slice oa ol oc)) (first | exact k0 | exact k1 | exact k2)
    (first
    | (go_at_call 49; refine (HX.out _ (HN.out _ HG0.out)).mono ?_; rintro r w1 ⟨rfl, g1⟩; have HG1 : Hid (Below w.heap.size w w1) := HG0.out.trans (g1.mono HG0.out.size); have k1 := keep13 g1 k0; clear k0 HG0 g1)
    | (go_at_call 62; refine (HZ.out _).mono ?_; rintro r w2 ⟨rfl, g1⟩; have HG2 : Hid (Below w.heap.size w w2) := HG1.out.trans (g1.mono HG1.out.size); have k2 := keep13 g1 k1; clear k1 HG1 g1))
  clear HX HZ HN
  go_wp2_with fail
  · go_ret
    refine ⟨?_, HG2.out⟩
    have h : x = 0 := by assumption
    rw [h]; rfl
  · refine (needed_any k _).mono ?_
    rintro r w3 ⟨rfl, rfl⟩
    by_cases h3 : bits .andNot .u16 (need k) z = 0
    · go_wp2_with fail
      refine (HB.out _ HG2.out).mono ?_
      rintro r w4 ⟨rfl, g4⟩
      have HG4 : Hid (Below w.heap.size w w4) := HG2.out.trans (g4.mono HG2.out.size)
      clear g4 k2 HG2
      go_wp2
      go_ret
      refine ⟨?_, HG4.out⟩
      have h1 : (x != 0) = true := by simp; assumption
      have h2 : bits .andNot .u16 z x = 0 := by assumption
      rw [h1]
      simp [h2, h3]
    · go_wp2_with fail
      go_ret
      refine ⟨?_, HG2.out⟩
      simp [h3]
  · go_ret
    refine ⟨?_, HG2.out⟩
    have h2 : ¬ bits .andNot .u16 z x = 0 := by assumption
    simp [h2]
end Go.Proofs.YtljghfglabgckaaDoor

/- What mayBe of package txn answers, for every request at every place. -/
namespace Go.Proofs.YtljghfglabgckaaDoor
open Go.RowKit
set_option maxRecDepth 8000

/-- What of a request is not zero. -/
def fz (f : RqF) (n : Nat) : Int := fillz (!f.path.toList.isEmpty) (decide (0 < f.data.length)) (decide (0 < f.acl.length)) (f.ver != 0) f.eph f.seq (f.ses != 0) (f.tmo != 0) (decide (0 < f.who.length)) (decide (0 < n))

/-- May a request stand there, its Ops aside? -/
def flatOk (last wo : Int) (f : RqF) (n : Nat) : Bool :=
  (nms last wo f.kind != 0) && (bits .andNot .u16 (fz f n) (nms last wo f.kind) == 0) && (bits .andNot .u16 (need f.kind) (fz f n) == 0)

/-- May a request stand in a Multi? -/
def Rq.inOk : Rq → Bool
  | .mk f n ops => flatOk 5 320 f n && (bdOk f && (decide ((n : Int) ≤ 8) && (List.ofFn fun i : Fin n => (ops i).inOk).all id))

def mayP (last wo : Int) : Rq → Bool
  | .mk f n ops => flatOk last wo f n && (bdOk f && (decide ((n : Int) ≤ 8) && (List.ofFn fun i : Fin n => (ops i).inOk).all id))

theorem mayP_in (r : Rq) : mayP 5 320 r = r.inOk := by
  cases r with
  | mk f n ops => rfl

theorem good_inv {f : RqF} {n : Nat} {ops : Fin n → Rq} (h : (Rq.mk f n ops).good) : f.good ∧ n ≤ 140737488355328 ∧ ∀ i : Fin n, (ops i).good := h

theorem mayBe_any (r : Rq) : ∀ (last wo : Int) (cs : List Value) (w : World), last ≤ 12 → SeesRq w cs r → r.good → Nam w →
    Calls Tryd.prog 46 #[lay last wo, .agg cs.toArray] w fun e w' => e = .returned (.bool (mayP last wo r)) ∧ Below w.heap.size w w' := by
  induction r with
  | mk f n ops ih =>
    intro last wo cs w hl hcs hgd hn
    obtain ⟨dv, av, wv, ov, oc, rfl, hd, ha, hw, ho, hs⟩ := rq_inv hcs
    obtain ⟨_, gn, gops⟩ := good_inv hgd
    have HB : ∀ W : World, Below w.heap.size w W → Calls Tryd.prog 64 #[.agg (rqCells f dv av wv ov).toArray] W fun r w' => r = .returned (.bool (bdOk f && (decide ((n : Int) ≤ 8) && (List.ofFn fun i : Fin n => (ops i).inOk).all id))) ∧ Below W.heap.size W w' := fun W hW =>
      isBounded_any f n ops dv av wv ov oc (fun i => (ops i).inOk) W (hd.below hW (Nat.le_refl _)) (ha.below hW (Nat.le_refl _)) (hw.below hW (Nat.le_refl _)) (ho.below hW (Nat.le_refl _)) (fun i => (hs i).later hW (Nat.le_refl _)) gn
        (fun i V hV => by
          have hb := hW.trans (hV.mono hW.size)
          have := ih i 5 320 (oc i) V (by omega) ((hs i).later hb (Nat.le_refl _)) (gops i) (hn.below hb hn.lt)
          rw [mayP_in] at this
          exact this)
    obtain ⟨kind, path, data, acl, ver, eph, seq, ses, tmo, who⟩ := f
    simp only at hd ha hw
    obtain ⟨da, dc, rfl, _⟩ := id hd
    obtain ⟨aa, ac, e1⟩ := seesR_shape ha
    obtain ⟨wa, wc', e2⟩ := seesR_shape hw
    obtain ⟨oa, occ, e3⟩ := seesR_shape ho
    rw [List.length_map] at e1 e2
    rw [List.length_ofFn] at e3
    subst e1 e2 e3
    have := mayBe_bits last wo kind path da aa wa oa data.length dc acl.length ac who.length wc' n occ ver eph seq ses tmo (nms last wo kind) (fz ⟨kind, path, data, acl, ver, eph, seq, ses, tmo, who⟩ n) _ w hn hl rfl rfl HB
    exact this
end Go.Proofs.YtljghfglabgckaaDoor
