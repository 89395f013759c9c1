/- What put of package txn lays of a Multi. -/
import Derived.Test.YtljghfglabgckaaDoorPutLJ
import Derived.Test.YtljghfglabgckaaDoorPutRJ
import Derived.Test.YtljghfglabgckaaDoorMayBJ
namespace Go.Proofs.YtljghfglabgckaaDoor
open Go.RowKit
set_option maxRecDepth 8000

set_option maxHeartbeats 4000000 in
theorem put_ou6 (f : RqF) (dv av wv ov : Value) (n : Nat) (oc : Fin n → List Value) (ops : Fin n → Rq) (B g : Nat) (v : Value) (xs : List Int) (w : World) (hk : f.kind = 6) (hl : Lies4 w B f dv av wv) (ho : SeesR w ov 11 (List.ofFn oc)) (fo : ∀ k, liveB ov = some k → k < B) (hs : ∀ i, RqL w (· < B) (oc i) (ops i)) (hok : ∀ i, (ops i).inOk = true) (hn8 : n ≤ 8) (h : IsW w g v xs) (hx : xs.length ≤ 10000000000) (hn : Nam w) (hB : 0 < B) (hg : B ≤ g) (hv : ∀ j, v.ownBlock = some j → B ≤ j) :
    Calls Tryd.prog 36 #[lay 8 0, .pointer (some ⟨g, 0, none⟩), .agg (rqCells f dv av wv ov).toArray] w fun e w' => e = .returned (.tuple #[]) ∧ Puts w g v (xs ++ encP false false false false false true false true f (be4 n ++ opsB ops n)) w' := by
  have m0 : bits .and .u16 832 1 = 0 := by decide
  have m1 : bits .and .u16 832 2 = 0 := by decide
  have m2 : bits .and .u16 832 4 = 0 := by decide
  have m3 : bits .and .u16 832 8 = 0 := by decide
  have m4 : bits .and .u16 832 16 = 0 := by decide
  have m5 : bits .and .u16 832 32 = 0 := by decide
  have m6 : bits .and .u16 832 64 = 64 := by decide
  have m7 : bits .and .u16 832 128 = 0 := by decide
  have m8 : bits .and .u16 832 256 = 256 := by decide
  have m9 : bits .and .u16 832 512 = 512 := by decide
  have hnm : nms 8 0 6 = 832 := by decide
  have HBD : Hid _ := bdOk_inv hl.bd
  have HLL : Hid (Lies4 w B f dv av wv) := hl
  have HLT : Hid (g < w.heap.size ∧ ∀ k, v.ownBlock = some k → k < w.heap.size) := h.lt
  obtain ⟨oa, occ, eo⟩ := seesR_shape ho
  rw [List.length_ofFn] at eo
  subst eo
  have HOP : Hid (SeesR w (.slice oa n occ) 11 (List.ofFn oc) ∧ (∀ k, liveB (Value.slice oa n occ) = some k → k < B) ∧ (∀ i, RqL w (· < B) (oc i) (ops i)) ∧ (∀ i, (ops i).inOk = true)) := ⟨ho, fo, hs, hok⟩
  clear ho fo hs hok
  obtain ⟨kind, path, data, acl, ver, eph, seq, ses, tmo, who⟩ := f
  simp only at hk
  subst hk
  obtain ⟨da, dc, rfl, _⟩ := id hl.hd
  obtain ⟨aa, ac, ea, _⟩ := id hl.ha
  obtain ⟨wa, wc, ew, _⟩ := id hl.hw
  rw [List.length_map] at ea ew
  simp only at ea ew
  subst ea ew
  simp only [rqCells]
  obtain ⟨V, eV⟩ : ∃ V, V = ((w.alloc (.cells #[.int .i8 8, .int .u16 0] 79)).alloc (.cells #[.int .i8 6, .string path, .slice da data.length dc, .slice aa acl.length ac, .int .i32 ver, .bool eph, .bool seq, .int .i64 ses, .int .i32 tmo, .slice wa who.length wc, .slice oa n occ] 47)) := ⟨_, rfl⟩
  have HV : Hid (IsW V g v xs ∧ Nam V ∧ (∀ zs W, Puts V g v zs W → Puts w g v zs W)) := by
    subst eV
    exact ⟨(h.alloc _).alloc _, hn.below (two_alloc w _ _) hn.lt, fun zs W hp => hp.of_alloc.of_alloc⟩
  have HC : Hid (∀ zs W, Puts V g v zs W → Nam W ∧ (∃ v1, IsW W g v1 zs ∧ NewRow V v v1 ∧ Kept V W (fun k => k = g ∨ v.ownBlock = some k) ∧ (∀ j, v1.ownBlock = some j → B ≤ j)) ∧ Lies4 W B ⟨6, path, data, acl, ver, eph, seq, ses, tmo, who⟩ (.slice da data.length dc) (.slice aa acl.length ac) (.slice wa who.length wc) ∧ (B ≤ W.heap.size ∧ SeesR W (.slice oa n occ) 11 (List.ofFn oc) ∧ ∀ i, RqL W (· < B) (oc i) (ops i)) ∧ W.cell? ⟨w.heap.size, 0, none⟩ = some (.int .i8 8) ∧ W.cell? ⟨w.heap.size, 1, none⟩ = some (.int .u16 0) ∧ W.cell? ⟨w.heap.size + 1, 0, none⟩ = some (.int .i8 6) ∧ W.cell? ⟨w.heap.size + 1, 1, none⟩ = some (.string path) ∧ W.cell? ⟨w.heap.size + 1, 2, none⟩ = some (.slice da data.length dc) ∧ W.cell? ⟨w.heap.size + 1, 3, none⟩ = some (.slice aa acl.length ac) ∧ W.cell? ⟨w.heap.size + 1, 4, none⟩ = some (.int .i32 ver) ∧ W.cell? ⟨w.heap.size + 1, 5, none⟩ = some (.bool eph) ∧ W.cell? ⟨w.heap.size + 1, 6, none⟩ = some (.bool seq) ∧ W.cell? ⟨w.heap.size + 1, 7, none⟩ = some (.int .i64 ses) ∧ W.cell? ⟨w.heap.size + 1, 8, none⟩ = some (.int .i32 tmo) ∧ W.cell? ⟨w.heap.size + 1, 9, none⟩ = some (.slice wa who.length wc) ∧ W.cell? ⟨w.heap.size + 1, 10, none⟩ = some (.slice oa n occ)) := by
    intro zs W hp
    have hlt := HLT.out
    have hVs : w.heap.size ≤ V.heap.size := by subst eV; simp; omega
    have hkV : Kept w V (fun _ => False) := by subst eV; exact ((Kept.refl w (fun _ => False)).alloc _).alloc _
    obtain ⟨v1, p1, p2, p3⟩ := id hp
    refine ⟨hp.nam HV.out.2.1 (by omega) (fun j hj => by have := hv j hj; omega), ⟨v1, p1, p2, p3, fun j hj => ?_⟩, ((HLL.out.kept hkV (fun k e => e.elim)).kept p3 (fun k e => ?_)), ⟨by have := p3.size; omega, (HOP.out.1.keptL hkV (fun k hk' e => e.elim)).keptL p3 (fun k hk' e => ?_), fun i => RqL.kept p3 (F' := (· < B)) (fun q hq => ⟨fun e => ?_, hq⟩) (RqL.kept hkV (F' := (· < B)) (fun q hq => ⟨fun e => e.elim, hq⟩) (HOP.out.2.2.1 i))⟩, ?_, ?_, ?_, ?_, ?_, ?_, ?_, ?_, ?_, ?_, ?_, ?_, ?_⟩
    · rcases p2 with e | ⟨q, e, hq⟩
      · exact hv j (by rw [← e]; exact hj)
      · rw [hj] at e; simp at e; omega
    · rcases e with e | e
      · omega
      · exact hv k e
    · have := HOP.out.2.1 k hk'
      rcases e with e | e
      · omega
      · have := hv k e; omega
    · have hq' : q < B := hq
      rcases e with e | e
      · omega
      · have := hv q e; omega
    iterate 2 (refine hp.cell (p := ⟨w.heap.size, _, none⟩) ?_ (by show w.heap.size ≠ g; omega) (fun e => by have h1 := hlt.2 _ e; have : w.heap.size < w.heap.size := h1; omega); subst eV; rw [World.cell?_alloc_lt _ _ _ (by simp), cell_of_row _ _ _ _ _ _ (heap_alloc_new _ _)]; rfl)
    all_goals (refine hp.cell (p := ⟨w.heap.size + 1, _, none⟩) ?_ (by show w.heap.size + 1 ≠ g; omega) (fun e => by have h1 := hlt.2 _ e; have : w.heap.size + 1 < w.heap.size := h1; omega); subst eV; rw [cell_of_row _ _ _ _ _ _ (by have := heap_alloc_new (w.alloc (.cells #[.int .i8 8, .int .u16 0] 79)) (.cells #[.int .i8 6, .string path, .slice da data.length dc, .slice aa acl.length ac, .int .i32 ver, .bool eph, .bool seq, .int .i64 ses, .int .i32 tmo, .slice wa who.length wc, .slice oa n occ] 47 (0, 0)); simpa using this)]; rfl)
  have HE : Hid _ := eV
  have HBG : Hid (0 < B ∧ B ≤ g) := ⟨hB, hg⟩
  clear h hn hB hv eV hl
  go_enter Tryd.func36, Tryd.ntmps36
  go_wp2_with fail
  rw [← HE.out]
  refine (wInt8_any g v xs 6 _ HV.out.1 (by omega)).mono ?_
  rintro e w1 ⟨rfl, hp⟩
  have HP1 : Hid (Puts V g v (xs ++ [6 % 256]) w1) := hp
  clear hp HE
  obtain ⟨nm, _, _, _, l0, l1, r0, r1, r2, r3, r4, r5, r6, r7, r8, r9, r10⟩ := HC.out _ _ HP1.out
  go_wp2_with fail
  refine (names_any 8 0 6 _ nm (by omega)).mono ?_
  rintro e w2 ⟨rfl, b2⟩
  rw [hnm]
  have HP2 : Hid (Puts V g v (xs ++ [6 % 256]) w2) := HP1.out.later b2
  clear b2 HP1 nm l0 l1 r0 r1 r2 r3 r4 r5 r6 r7 r8 r9 r10
  obtain ⟨_, ⟨v2, iw2, nr2, kp2, vb2⟩, li2, bs2, l0, l1, r0, r1, r2, r3, r4, r5, r6, r7, r8, r9, r10⟩ := HC.out _ _ HP2.out
  have HW2 : Hid _ := And.intro iw2 (And.intro nr2 (And.intro kp2 (And.intro vb2 (And.intro li2 bs2))))
  clear iw2 nr2 kp2 vb2 li2 bs2
  go_wp2_with fail
  refine (wInt64_any g v2 _ ses _ HW2.out.1 (by have := HBD.out; have hac := acB_len acl (fun y hy => by have := HBD.out.2.2.2.1 y hy; omega); (repeat (first | rw [List.length_append] | rw [be4_length] | rw [be8_length] | rw [txt_len] | rw [List.length_singleton])); omega)).mono ?_
  rintro e w3 ⟨rfl, hp⟩
  have HP3 : Hid (Puts V g v _ w3) := Puts.next HW2.out.2.1 HW2.out.2.2.1 hp
  clear hp HW2 l0 l1 r0 r1 r2 r3 r4 r5 r6 r7 r8 r9 r10
  obtain ⟨_, ⟨v3, iw2, nr2, kp2, vb2⟩, li2, bs2, l0, l1, r0, r1, r2, r3, r4, r5, r6, r7, r8, r9, r10⟩ := HC.out _ _ HP3.out
  have HW3 : Hid _ := And.intro iw2 (And.intro nr2 (And.intro kp2 (And.intro vb2 (And.intro li2 bs2))))
  clear iw2 nr2 kp2 vb2 li2 bs2
  go_wp2_with fail
  refine (putListI_any 8 0 g v3 (.slice wa who.length wc) _ who _ HW3.out.1 HW3.out.2.2.2.2.1.hw (by have := HBD.out; omega) (fun y hy => by have := HBD.out.2.2.2.2.2.2.2.2 y hy; omega) (by have := HBD.out; have hac := acB_len acl (fun y hy => by have := HBD.out.2.2.2.1 y hy; omega); (repeat (first | rw [List.length_append] | rw [be4_length] | rw [be8_length] | rw [txt_len] | rw [List.length_singleton])); omega) (fun q hq => ⟨by have := HLL.out.fw q hq; omega, fun e => by have := HLL.out.fw q hq; have := HW3.out.2.2.2.1 q e; omega, by have := HLL.out.fw q hq; have := HW3.out.2.2.2.2.2.1; omega⟩)).mono ?_
  rintro e w4 ⟨rfl, hp⟩
  have HP4 : Hid (Puts V g v _ w4) := Puts.next HW3.out.2.1 HW3.out.2.2.1 hp
  clear hp HW3 l0 l1 r0 r1 r2 r3 r4 r5 r6 r7 r8 r9 r10
  obtain ⟨_, ⟨v4, iw2, nr2, kp2, vb2⟩, li2, bs2, l0, l1, r0, r1, r2, r3, r4, r5, r6, r7, r8, r9, r10⟩ := HC.out _ _ HP4.out
  have HW4 : Hid _ := And.intro iw2 (And.intro nr2 (And.intro kp2 (And.intro vb2 (And.intro li2 bs2))))
  clear iw2 nr2 kp2 vb2 li2 bs2
  have hd4 : Puts V g v _ w4.drew := HP4.out.later (below_drewN (Below.refl _ _) 1)
  have HD4 : Hid (Puts V g v _ w4.drew) := hd4
  have k0 : w4.drew.cell? ⟨w.heap.size + 1, 10, none⟩ = some (.slice oa n occ) := by
    obtain ⟨_, _, _, _, _, _, _, _, _, _, _, _, _, _, _, _, q10⟩ := HC.out _ _ hd4
    exact q10
  clear hd4
  go_wp2_with fail
  go_region_held (fun w' => w'.cell? ⟨w.heap.size + 1, 10, none⟩ = some (.slice oa n occ)) (first | exact k0 | exact k1 | exact k2)
    (first
    | (go_at_call 59; refine (within_any _).mono ?_; rintro e w5 ⟨rfl, b5⟩; have HP5 : Hid (Puts V g v _ w5) := HD4.out.later b5; have k1 : w5.cell? ⟨w.heap.size + 1, 10, none⟩ = some (.slice oa n occ) := cell_later k0 b5 (Nat.le_refl _); clear b5 k0 HD4)
    | (go_at_call 58; obtain ⟨nm5, ⟨v5, iw5, nr5, kp5, vb5⟩, _, ⟨_, so5, ro5⟩, _⟩ := HC.out _ _ HP5.out; refine (putListR_any B g v5 _ _ n oc ops _ iw5 so5 ro5 HOP.out.2.2.2 hn8 ?_ nm5 HBG.out.1 HBG.out.2 vb5 HOP.out.2.1).mono ?_; (have := HBD.out; have hid := idsB_len who (fun y hy => by have := HBD.out.2.2.2.2.2.2.2.2 y hy; omega); (repeat (first | rw [List.length_append] | rw [be4_length] | rw [be8_length] | rw [List.length_singleton])); omega); rintro e w6 ⟨rfl, hp⟩; have HP6 : Hid (Puts V g v _ w6) := Puts.next nr5 kp5 hp; have k2 : w6.cell? ⟨w.heap.size + 1, 10, none⟩ = some (.slice oa n occ) := (by obtain ⟨_, _, _, _, _, _, _, _, _, _, _, _, _, _, _, _, q10⟩ := HC.out _ _ HP6.out; exact q10); clear hp iw5 nr5 kp5 vb5 so5 ro5 nm5 HP5 k1))
  clear k2 l0 l1 r0 r1 r2 r3 r4 r5 r6 r7 r8 r9 r10
  go_wp2_with fail
  go_end0
  refine ⟨rfl, HV.out.2.2 _ _ ?_⟩
  have hq := HP6.out
  simpa [encP] using hq
end Go.Proofs.YtljghfglabgckaaDoor

/- What txn.Check answers where the zxid and the origin may be: by mayBe's answer. -/
namespace Go.Proofs.YtljghfglabgckaaDoor
open Go.RowKit
set_option maxRecDepth 8000

theorem keep16 {W W' : World} {N : Nat} {r0 r1 r2 r3 r4 r5 r6 r7 r8 r9 r10 r11 r12 r13 r14 r15 : Value} (hb : Below W.heap.size W W') (h : W.cell? ⟨N, 0, none⟩ = some r0 ∧ W.cell? ⟨N, 1, none⟩ = some r1 ∧ W.cell? ⟨N, 2, none⟩ = some r2 ∧ W.cell? ⟨N, 3, none⟩ = some r3 ∧ W.cell? ⟨N, 4, none⟩ = some r4 ∧ W.cell? ⟨N, 5, none⟩ = some r5 ∧ W.cell? ⟨N, 6, none⟩ = some r6 ∧ W.cell? ⟨N, 7, none⟩ = some r7 ∧ W.cell? ⟨N, 8, none⟩ = some r8 ∧ W.cell? ⟨N, 9, none⟩ = some r9 ∧ W.cell? ⟨N, 10, none⟩ = some r10 ∧ W.cell? ⟨N, 11, none⟩ = some r11 ∧ W.cell? ⟨N, 12, none⟩ = some r12 ∧ W.cell? ⟨N, 13, none⟩ = some r13 ∧ W.cell? ⟨N, 14, none⟩ = some r14 ∧ W.cell? ⟨N, 15, none⟩ = some r15) :
    W'.cell? ⟨N, 0, none⟩ = some r0 ∧ W'.cell? ⟨N, 1, none⟩ = some r1 ∧ W'.cell? ⟨N, 2, none⟩ = some r2 ∧ W'.cell? ⟨N, 3, none⟩ = some r3 ∧ W'.cell? ⟨N, 4, none⟩ = some r4 ∧ W'.cell? ⟨N, 5, none⟩ = some r5 ∧ W'.cell? ⟨N, 6, none⟩ = some r6 ∧ W'.cell? ⟨N, 7, none⟩ = some r7 ∧ W'.cell? ⟨N, 8, none⟩ = some r8 ∧ W'.cell? ⟨N, 9, none⟩ = some r9 ∧ W'.cell? ⟨N, 10, none⟩ = some r10 ∧ W'.cell? ⟨N, 11, none⟩ = some r11 ∧ W'.cell? ⟨N, 12, none⟩ = some r12 ∧ W'.cell? ⟨N, 13, none⟩ = some r13 ∧ W'.cell? ⟨N, 14, none⟩ = some r14 ∧ W'.cell? ⟨N, 15, none⟩ = some r15 :=
  ⟨cell_later h.1 hb (Nat.le_refl _), cell_later h.2.1 hb (Nat.le_refl _), cell_later h.2.2.1 hb (Nat.le_refl _), cell_later h.2.2.2.1 hb (Nat.le_refl _), cell_later h.2.2.2.2.1 hb (Nat.le_refl _), cell_later h.2.2.2.2.2.1 hb (Nat.le_refl _), cell_later h.2.2.2.2.2.2.1 hb (Nat.le_refl _), cell_later h.2.2.2.2.2.2.2.1 hb (Nat.le_refl _), cell_later h.2.2.2.2.2.2.2.2.1 hb (Nat.le_refl _), cell_later h.2.2.2.2.2.2.2.2.2.1 hb (Nat.le_refl _), cell_later h.2.2.2.2.2.2.2.2.2.2.1 hb (Nat.le_refl _), cell_later h.2.2.2.2.2.2.2.2.2.2.2.1 hb (Nat.le_refl _), cell_later h.2.2.2.2.2.2.2.2.2.2.2.2.1 hb (Nat.le_refl _), cell_later h.2.2.2.2.2.2.2.2.2.2.2.2.2.1 hb (Nat.le_refl _), cell_later h.2.2.2.2.2.2.2.2.2.2.2.2.2.2.1 hb (Nat.le_refl _), cell_later h.2.2.2.2.2.2.2.2.2.2.2.2.2.2.2 hb (Nat.le_refl _)⟩

set_option maxHeartbeats 2000000 in
theorem check_ok (e n sv bt nm k : Int) (s : ByteArray) (da aa wa oa : Option Addr) (dl dc al ac wl wc ol oc : Nat) (ver : Int) (eph seq : Bool) (ses tmo : Int) (q : Bool) (w : World) (h0 : 0 ≤ e) (h2 : 0 ≤ n)
    (hz : zxOk e n = true) (hO : origOk sv nm = true)
    (hb : ∀ W : World, Below w.heap.size w W → Calls Tryd.prog 46 #[lay 8 0, .agg #[.int .i8 k, .string s, .slice da dl dc, .slice aa al ac, .int .i32 ver, .bool eph, .bool seq, .int .i64 ses, .int .i32 tmo, .slice wa wl wc, .slice oa ol oc]] W fun r W' => r = .returned (.bool q) ∧ Below W.heap.size W W') :
    Calls Tryd.prog 31 #[.agg #[.int .u32 e, .int .u32 n, .int .i8 sv, .int .u32 bt, .int .i64 nm, .int .i8 k, .string s, .slice da dl dc, .slice aa al ac, .int .i32 ver, .bool eph, .bool seq, .int .i64 ses, .int .i32 tmo, .slice wa wl wc, .slice oa ol oc]] w fun r w' => r = .returned (.int .i64 (if q then 0 else 40)) ∧ Below w.heap.size w w' := by
  have HZ : Hid (∀ W : World, Calls Tryd.prog 44 #[.agg #[.int .u32 e, .int .u32 n]] W fun r w' => r = .returned (.bool true) ∧ Below W.heap.size W w') := fun W => by
    rw [← hz]; exact isZxid_any e n W h0 h2
  have HO : Hid (∀ W : World, Calls Tryd.prog 45 #[.agg #[.int .i8 sv, .int .u32 bt, .int .i64 nm]] W fun r w' => r = .returned (.bool true) ∧ Below W.heap.size W w') := fun W => by
    rw [← hO]; exact isOrigin_any sv bt nm W
  have HB : Hid _ := hb
  have HL : Hid (∀ o : Obj, Below w.heap.size w (w.alloc o).drew) := fun o => below_drewN (one_alloc w o) 1
  clear hb hz hO
  go_enter Tryd.func31, Tryd.ntmps31
  go_wp2_with fail
  generalize eW0 : (w.alloc (.cells #[.int .u32 e, .int .u32 n, .int .i8 sv, .int .u32 bt, .int .i64 nm, .int .i8 k, .string s, .slice da dl dc, .slice aa al ac, .int .i32 ver, .bool eph, .bool seq, .int .i64 ses, .int .i32 tmo, .slice wa wl wc, .slice oa ol oc] 49)) = W0
  have k0 : W0.drew.cell? ⟨w.heap.size, 0, none⟩ = some (.int .u32 e) ∧ W0.drew.cell? ⟨w.heap.size, 1, none⟩ = some (.int .u32 n) ∧ W0.drew.cell? ⟨w.heap.size, 2, none⟩ = some (.int .i8 sv) ∧ W0.drew.cell? ⟨w.heap.size, 3, none⟩ = some (.int .u32 bt) ∧ W0.drew.cell? ⟨w.heap.size, 4, none⟩ = some (.int .i64 nm) ∧ W0.drew.cell? ⟨w.heap.size, 5, none⟩ = some (.int .i8 k) ∧ W0.drew.cell? ⟨w.heap.size, 6, none⟩ = some (.string s) ∧ W0.drew.cell? ⟨w.heap.size, 7, none⟩ = some (.slice da dl dc) ∧ W0.drew.cell? ⟨w.heap.size, 8, none⟩ = some (.slice aa al ac) ∧ W0.drew.cell? ⟨w.heap.size, 9, none⟩ = some (.int .i32 ver) ∧ W0.drew.cell? ⟨w.heap.size, 10, none⟩ = some (.bool eph) ∧ W0.drew.cell? ⟨w.heap.size, 11, none⟩ = some (.bool seq) ∧ W0.drew.cell? ⟨w.heap.size, 12, none⟩ = some (.int .i64 ses) ∧ W0.drew.cell? ⟨w.heap.size, 13, none⟩ = some (.int .i32 tmo) ∧ W0.drew.cell? ⟨w.heap.size, 14, none⟩ = some (.slice wa wl wc) ∧ W0.drew.cell? ⟨w.heap.size, 15, none⟩ = some (.slice oa ol oc) := by
    subst eW0
    refine ⟨?_, ?_, ?_, ?_, ?_, ?_, ?_, ?_, ?_, ?_, ?_, ?_, ?_, ?_, ?_, ?_⟩ <;> (show World.cell? (w.alloc _) _ = _; rw [cell_of_row _ _ _ _ _ _ (heap_alloc_new _ _)]; rfl)
  have HG0 : Hid (Below w.heap.size w W0.drew) := by subst eW0; exact HL.out _
  clear HL eW0
  go_region_held (fun w' => w'.cell? ⟨w.heap.size, 0, none⟩ = some (.int .u32 e) ∧ w'.cell? ⟨w.heap.size, 1, none⟩ = some (.int .u32 n) ∧ w'.cell? ⟨w.heap.size, 2, none⟩ = some (.int .i8 sv) ∧ w'.cell? ⟨w.heap.size, 3, none⟩ = some (.int .u32 bt) ∧ w'.cell? ⟨w.heap.size, 4, none⟩ = some (.int .i64 nm) ∧ w'.cell? ⟨w.heap.size, 5, none⟩ = some (.int .i8 k) ∧ w'.cell? ⟨w.heap.size, 6, none⟩ = some (.string s) ∧ w'.cell? ⟨w.heap.size, 7, none⟩ = some (.slice da dl dc) ∧ w'.cell? ⟨w.heap.size, 8, none⟩ = some (.slice aa al ac) ∧ w'.cell? ⟨w.heap.size, 9, none⟩ = some (.int .i32 ver) ∧ w'.cell? ⟨w.heap.size, 10, none⟩ = some (.bool eph) ∧ w'.cell? ⟨w.heap.size, 11, none⟩ = some (.bool seq) ∧ w'.cell? ⟨w.heap.size, 12, none⟩ = some (.int .i64 ses) ∧ w'.cell? ⟨w.heap.size, 13, none⟩ = some (.int .i32 tmo) ∧ w'.cell? ⟨w.heap.size, 14, none⟩ = some (.slice wa wl wc) ∧ w'.cell? ⟨w.heap.size, 15, none⟩ = some (.slice oa ol oc)) (first | exact k0 | exact k1 | exact k2 | exact k3 | exact k4)
    (first
    | (go_at_call 44; refine (HZ.out _).mono ?_; rintro r w1 ⟨rfl, g1⟩; have HG1 : Hid (Below w.heap.size w w1) := HG0.out.trans (g1.mono HG0.out.size); have k1 := keep16 g1 k0; clear k0 HG0 g1)
    | (go_at_call 45; refine (HO.out _).mono ?_; rintro r w2 ⟨rfl, g2⟩; have HG2 : Hid (Below w.heap.size w w2) := HG1.out.trans (g2.mono HG1.out.size); have k2 := keep16 g2 k1; clear k1 HG1 g2)
    | (go_at_call 35; refine (proposed_any _).mono ?_; rintro r w3 ⟨rfl, g3⟩; have HG3 : Hid (Below w.heap.size w w3) := HG2.out.trans (g3.mono HG2.out.size); have k3 := keep16 g3 k2; clear k2 HG2 g3)
    | (go_at_call 46; refine (HB.out _ HG3.out).mono ?_; rintro r w4 ⟨rfl, g4⟩; have HG4 : Hid (Below w.heap.size w w4) := HG3.out.trans (g4.mono HG3.out.size); have k4 := keep16 g4 k3; clear k3 HG3 g4))
  cases q
  all_goals (go_wp2; go_ret; exact ⟨rfl, HG4.out⟩)
end Go.Proofs.YtljghfglabgckaaDoor
