/- request and Write of the document's layer 4, for every transaction in memory. -/
import Derived.Test.YtobnggkgpenmfaaGreatDoorWeBJ
import Derived.Test.YtobnggkgpenmfaaGreatDoorWdVJ
namespace Go.Proofs.YtobnggkgpenmfaaGreatDoor
open Go.RowKit
set_option maxRecDepth 8000

theorem BehCall.mono {f : Nat} {args : Array Value} {B : Nat} {w : World} {v : Value} {zs zs' : List Int} (h : BehCall f args B w v zs) (e : zs = zs') : BehCall f args B w v zs' := by rw [← e]; exact h

theorem refReq_in (r : Rq) (cs : List Value) (B : Nat) (v : Value) (xs : List Int) (w w00 : World) (h : SeesRq w00 cs r) (hb0 : Below B w00 w) (hB0 : w00.heap.size ≤ B) (hg : r.good) (hok : r.inOk = true) (hv : Owns w B v xs) (hB : B ≤ w.heap.size) (hx : xs.length ≤ 10000000) :
    BehCall 53 #[v, .agg cs.toArray, .bool true] B w v (xs ++ encIn r) := by
  cases h with
  | mk f n ops dv av wv ov oc hd ha hw ho hs =>
    obtain ⟨h1, h5, hbd⟩ := inOk_inv hok
    obtain ⟨d0, d1, d2, rfl⟩ := sees_form hd
    obtain ⟨a0, a2, e1⟩ := seesR_shape ha
    obtain ⟨e0, e2, e3⟩ := seesR_shape hw
    obtain ⟨o0, o2, e4⟩ := seesR_shape ho
    rw [List.length_map] at e1 e3
    rw [List.length_ofFn] at e4
    subst e1 e3 e4
    have hgf := hg.1
    have hen := encTo_in f n ops (be4 n) h1 h5
    obtain ⟨kind, path, data, acl, ver, eph, seq, ses, tmo, who⟩ := f
    simp only at h1 h5 hen hd ha hw
    rw [← hen]
    exact refReq_gen true kind ver ses tmo path data acl eph seq who n (be4 n) oc d0 a0 e0 o0 d1 d2 a2 e2 o2 B v xs w hgf w00 hb0 hB0 hbd hd ha hw ho (fun i => (hs i).len) (fun e => by omega) hv hB hx (fun _ => be4 n) rfl rfl (fun k _ => by simp [be4]) (fun e => by omega)

theorem refReq_out (r : Rq) (cs : List Value) (B : Nat) (v : Value) (xs : List Int) (w w00 : World) (h : SeesRq w00 cs r) (hb0 : Below B w00 w) (hB0 : w00.heap.size ≤ B) (hg : r.good) (hok : mayP 8 0 r = true) (hv : Owns w B v xs) (hB : B ≤ w.heap.size) (hx : xs.length ≤ 1000) :
    BehCall 53 #[v, .agg cs.toArray, .bool false] B w v (xs ++ encOut r) := by
  cases h with
  | mk f n ops dv av wv ov oc hd ha hw ho hs =>
    obtain ⟨h1, h8, hbd, hn, hin⟩ := mayP_inv hok
    obtain ⟨d0, d1, d2, rfl⟩ := sees_form hd
    obtain ⟨a0, a2, e1⟩ := seesR_shape ha
    obtain ⟨e0, e2, e3⟩ := seesR_shape hw
    obtain ⟨o0, o2, e4⟩ := seesR_shape ho
    rw [List.length_map] at e1 e3
    rw [List.length_ofFn] at e4
    subst e1 e3 e4
    have hgf := hg.1
    have hgo := hg.2.2
    have hen := encTo_out f n ops h1 h8
    have hel : ∀ k, k ≤ n → (be4 (n : Int) ++ opsB ops k).length ≤ 1000000 := fun k hk => by
      have := opsB_small ops hin k hk
      simp [be4]
      omega
    obtain ⟨kind, path, data, acl, ver, eph, seq, ses, tmo, who⟩ := f
    simp only at h1 h8 hen hd ha hw
    rw [← hen]
    refine refReq_gen false kind ver ses tmo path data acl eph seq who n (be4 n ++ opsB ops n) oc d0 a0 e0 o0 d1 d2 a2 e2 o2 B v xs w hgf w00 hb0 hB0 hbd hd ha hw ho (fun i => (hs i).len) (fun _ => hn) hv hB (by omega) (fun k => be4 n ++ opsB ops k) (by simp [opsB]) rfl hel (fun _ k hk W u ys hkp hBW hu hy => ?_)
    have hlen := hel k (by omega)
    refine (refReq_in (ops ⟨k, hk⟩) (oc ⟨k, hk⟩) B u (ys ++ (be4 n ++ opsB ops k)) W w00 (hs ⟨k, hk⟩) (hb0.trans hkp) hB0 (hgo _) (hin _) hu hBW (by rw [List.length_append]; omega)).mono ?_
    rw [opsB_next ops k hk]
    simp [List.append_assoc]

set_option maxHeartbeats 4000000 in
theorem refWrite_any (t : TxD) (rc : List Value) (w : World) (hr : SeesRq w rc t.rq) (hg : t.good) :
    Calls Tryz.prog 28 #[.agg (txHead t ++ rc).toArray] w fun e w' => ∃ v, e = .returned (.tuple #[v, .int .i64 (if txOk t then 0 else 40)]) ∧ Owns w' w.heap.size v (if txOk t then txB t else []) ∧ Below w.heap.size w w' := by
  have hck := fun W cs' (hh : SeesTx W cs' t) => refCheck_any cs' t W hh hg
  have HTB : Hid (txB t = headB t.ep t.n t.srv t.boot t.num ++ encOut t.rq) := rfl
  have HOK : Hid (txOk t = true → mayP 8 0 t.rq = true) := fun hok => by
    simp only [txOk, Bool.and_eq_true] at hok
    exact hok.2
  obtain ⟨OK, hOK⟩ : ∃ OK, OK = txOk t := ⟨_, rfl⟩
  obtain ⟨TB, hTB⟩ : ∃ TB, TB = txB t := ⟨_, rfl⟩
  rw [← hOK] at hck HOK ⊢
  rw [← hTB] at HTB ⊢
  obtain ⟨E, hE⟩ : ∃ E : Int, E = (if OK then 0 else 40) := ⟨_, rfl⟩
  rw [← hE] at hck ⊢
  obtain ⟨Z, hZ⟩ : ∃ Z : List Int, Z = (if OK then TB else []) := ⟨_, rfl⟩
  rw [← hZ]
  have HCK : Hid _ := hck
  have HEZ : Hid _ := And.intro hE hZ
  have HG : Hid _ := hg
  have HRI : Hid _ := hr
  clear hOK hTB hE hZ hck hg
  obtain ⟨ep, tn, srv, boot, num, r⟩ := t
  simp only at hr HTB HOK HRI HG
  obtain ⟨q0, q1, d0, d1, d2, a0, a1, a2, q4, q5, q6, q7, q8, e0, e1, e2, o0, o1, o2, rfl⟩ := rq_forms hr
  clear hr
  simp only [txHead, List.cons_append, List.nil_append] at HCK ⊢
  obtain ⟨V, eV⟩ : ∃ V, V = w.alloc (.cells #[.int .u32 ep, .int .u32 tn, .int .i8 srv, .int .u32 boot, .int .i64 num, .int .i8 q0, .string q1, .slice d0 d1 d2, .slice a0 a1 a2, .int .i32 q4, .bool q5, .bool q6, .int .i64 q7, .int .i32 q8, .slice e0 e1 e2, .slice o0 o1 o2] 49) := ⟨_, rfl⟩
  have HV : Hid (Below w.heap.size w V) := by subst eV; exact one_alloc _ _
  have HC0 : Hid (∀ W', Below V.heap.size V W' → W'.cell? ⟨w.heap.size, 0, none⟩ = some (.int .u32 ep) ∧ W'.cell? ⟨w.heap.size, 1, none⟩ = some (.int .u32 tn) ∧ W'.cell? ⟨w.heap.size, 2, none⟩ = some (.int .i8 srv) ∧ W'.cell? ⟨w.heap.size, 3, none⟩ = some (.int .u32 boot) ∧ W'.cell? ⟨w.heap.size, 4, none⟩ = some (.int .i64 num) ∧ W'.cell? ⟨w.heap.size, 5, none⟩ = some (.int .i8 q0) ∧ W'.cell? ⟨w.heap.size, 6, none⟩ = some (.string q1) ∧ W'.cell? ⟨w.heap.size, 7, none⟩ = some (.slice d0 d1 d2) ∧ W'.cell? ⟨w.heap.size, 8, none⟩ = some (.slice a0 a1 a2) ∧ W'.cell? ⟨w.heap.size, 9, none⟩ = some (.int .i32 q4) ∧ W'.cell? ⟨w.heap.size, 10, none⟩ = some (.bool q5) ∧ W'.cell? ⟨w.heap.size, 11, none⟩ = some (.bool q6) ∧ W'.cell? ⟨w.heap.size, 12, none⟩ = some (.int .i64 q7) ∧ W'.cell? ⟨w.heap.size, 13, none⟩ = some (.int .i32 q8) ∧ W'.cell? ⟨w.heap.size, 14, none⟩ = some (.slice e0 e1 e2) ∧ W'.cell? ⟨w.heap.size, 15, none⟩ = some (.slice o0 o1 o2)) := by
    intro W' hW
    subst eV
    refine ⟨?_, ?_, ?_, ?_, ?_, ?_, ?_, ?_, ?_, ?_, ?_, ?_, ?_, ?_, ?_, ?_⟩ <;> (refine cell_later ?_ hW (Nat.le_refl _); rw [cell_of_row _ _ _ _ _ _ (heap_alloc_new _ _)]; rfl)
  have HE : Hid _ := eV
  clear eV
  go_enter Tryz.func28, Tryz.ntmps28
  go_wp2_with fail
  rw [← HE.out]
  clear HE
  refine (HCK.out V _ ⟨[.int .i8 q0, .string q1, .slice d0 d1 d2, .slice a0 a1 a2, .int .i32 q4, .bool q5, .bool q6, .int .i64 q7, .int .i32 q8, .slice e0 e1 e2, .slice o0 o1 o2], rfl, HRI.out.later HV.out (Nat.le_refl _)⟩).mono ?_
  rintro _ w1 ⟨rfl, b1⟩
  have HB1 : Hid (Below V.heap.size V w1) := b1
  have HBw : Hid (Below w.heap.size w w1) := HV.out.trans (b1.mono HV.out.size)
  clear b1 HCK
  cases OK
  · obtain ⟨hE, hZ⟩ := HEZ.out
    simp only [Bool.false_eq_true, if_false] at hE hZ
    subst hE hZ
    clear HEZ
    go_wp2_with fail
    go_ret2
    exact ⟨_, rfl, World.ownsRow_nil _ _ _ _, HBw.out⟩
  · obtain ⟨hE, hZ⟩ := HEZ.out
    simp only [if_true] at hE hZ
    subst hE
    have HZ : Hid _ := hZ
    clear HEZ hZ
    have HM := HOK.out rfl
    have c0 := (HC0.out _ HB1.out).1
    go_wp2_with fail
    clear c0
    refine (refUint32_any ep _ HG.out.e0 (by have h : ep ≤ 4294967295 := HG.out.e1; omega)).mono ?_
    rintro e wq ⟨v1, rfl, hv1, hbq⟩
    obtain ⟨B, hBe⟩ : ∃ B, B = w1.heap.size := ⟨_, rfl⟩
    rw [← hBe] at hv1 hbq
    have HQ : Hid (Owns wq B v1 (be4 ep) ∧ B ≤ wq.heap.size) := ⟨hv1, by rw [hBe]; exact hbq.size⟩
    have HQB : Hid (Below w.heap.size w wq ∧ w.heap.size ≤ B) := ⟨HBw.out.trans ((hBe ▸ hbq : Below w1.heap.size w1 wq).mono HBw.out.size), by rw [hBe]; exact HBw.out.size⟩
    have HC : Hid (∀ W', Below B wq W' → W'.cell? ⟨w.heap.size, 0, none⟩ = some (.int .u32 ep) ∧ W'.cell? ⟨w.heap.size, 1, none⟩ = some (.int .u32 tn) ∧ W'.cell? ⟨w.heap.size, 2, none⟩ = some (.int .i8 srv) ∧ W'.cell? ⟨w.heap.size, 3, none⟩ = some (.int .u32 boot) ∧ W'.cell? ⟨w.heap.size, 4, none⟩ = some (.int .i64 num) ∧ W'.cell? ⟨w.heap.size, 5, none⟩ = some (.int .i8 q0) ∧ W'.cell? ⟨w.heap.size, 6, none⟩ = some (.string q1) ∧ W'.cell? ⟨w.heap.size, 7, none⟩ = some (.slice d0 d1 d2) ∧ W'.cell? ⟨w.heap.size, 8, none⟩ = some (.slice a0 a1 a2) ∧ W'.cell? ⟨w.heap.size, 9, none⟩ = some (.int .i32 q4) ∧ W'.cell? ⟨w.heap.size, 10, none⟩ = some (.bool q5) ∧ W'.cell? ⟨w.heap.size, 11, none⟩ = some (.bool q6) ∧ W'.cell? ⟨w.heap.size, 12, none⟩ = some (.int .i64 q7) ∧ W'.cell? ⟨w.heap.size, 13, none⟩ = some (.int .i32 q8) ∧ W'.cell? ⟨w.heap.size, 14, none⟩ = some (.slice e0 e1 e2) ∧ W'.cell? ⟨w.heap.size, 15, none⟩ = some (.slice o0 o1 o2)) := fun W' hW => HC0.out W' (HB1.out.trans (by rw [hBe] at hbq hW; exact (hbq.trans hW).mono HB1.out.size))
    have HRB : Hid ((∀ W', Below B wq W' → Below B w1 W') ∧ SeesRq w1 [.int .i8 q0, .string q1, .slice d0 d1 d2, .slice a0 a1 a2, .int .i32 q4, .bool q5, .bool q6, .int .i64 q7, .int .i32 q8, .slice e0 e1 e2, .slice o0 o1 o2] r ∧ w1.heap.size ≤ B) := ⟨fun W' hW => hbq.trans hW, HRI.out.later HBw.out (Nat.le_refl _), by rw [hBe]; exact Nat.le_refl _⟩
    have HR0 : Hid (Beh B wq v1 (be4 ep) wq v1) := Beh.refl HQ.out.1 HQ.out.2
    have HB0 : Hid (Below B wq wq) := Below.refl _ _
    clear hv1 hbq hBe HC0 HB1 HBw HRI
    have c1 := (HC.out _ HB0.out).2.1
    go_wp2_with fail
    clear c1
    refine (refUint32_any tn _ HG.out.n0 (by have h : tn ≤ 4294967295 := HG.out.n1; omega)).mono ?_
    rintro e w2a ⟨u2a, rfl, hu, hb⟩
    have HX := behind_new HR0.out hb hu (by simp [be4])
    clear hu hb
    go_wp2_with fail
    refine HX.mono ?_
    clear HX
    rintro e w2b ⟨v2b, rfl, hv, _⟩
    have HR1 : Hid (Beh B wq v1 (be4 ep ++ be4 tn) w2b v2b) := hv
    have HB1 : Hid (Below B wq w2b) := hv.below HQ.out.1 HQ.out.2
    clear hv HR0 HB0
    have c2 := (HC.out _ HB1.out).2.2.1
    go_wp2_with fail
    clear c2
    refine (refInt8_any srv _ HG.out.s0 HG.out.s1).mono ?_
    rintro e w3a ⟨u3a, rfl, hu, hb⟩
    have HX := behind_new HR1.out hb hu (by simp [be4])
    clear hu hb
    go_wp2_with fail
    refine HX.mono ?_
    clear HX
    rintro e w3b ⟨v3b, rfl, hv, _⟩
    have HR2 : Hid (Beh B wq v1 (be4 ep ++ be4 tn ++ [srv % 256]) w3b v3b) := hv
    have HB2 : Hid (Below B wq w3b) := hv.below HQ.out.1 HQ.out.2
    clear hv HR1 HB1
    have c3 := (HC.out _ HB2.out).2.2.2.1
    go_wp2_with fail
    clear c3
    refine (refUint32_any boot _ HG.out.b0 (by have h : boot ≤ 4294967295 := HG.out.b1; omega)).mono ?_
    rintro e w4a ⟨u4a, rfl, hu, hb⟩
    have HX := behind_new HR2.out hb hu (by simp [be4])
    clear hu hb
    go_wp2_with fail
    refine HX.mono ?_
    clear HX
    rintro e w4b ⟨v4b, rfl, hv, _⟩
    have HR3 : Hid (Beh B wq v1 (be4 ep ++ be4 tn ++ [srv % 256] ++ be4 boot) w4b v4b) := hv
    have HB3 : Hid (Below B wq w4b) := hv.below HQ.out.1 HQ.out.2
    clear hv HR2 HB2
    have c4 := (HC.out _ HB3.out).2.2.2.2.1
    go_wp2_with fail
    clear c4
    refine (refInt64_any num _ HG.out.m0 HG.out.m1).mono ?_
    rintro e w5a ⟨u5a, rfl, hu, hb⟩
    have HX := behind_new HR3.out hb hu (by simp [be4, be8])
    clear hu hb
    go_wp2_with fail
    refine HX.mono ?_
    clear HX
    rintro e w5b ⟨v5b, rfl, hv, _⟩
    have HR4 : Hid (Beh B wq v1 (be4 ep ++ be4 tn ++ [srv % 256] ++ be4 boot ++ be8 (up64 num)) w5b v5b) := hv
    have HB4 : Hid (Below B wq w5b) := hv.below HQ.out.1 HQ.out.2
    clear hv HR3 HB3
    obtain ⟨g0, g1, g2, g3, g4, g5, g6, g7, g8, g9, g10, g11, g12, g13, g14, g15⟩ := HC.out _ HB4.out
    go_wp2_with fail
    clear g0 g1 g2 g3 g4 g5 g6 g7 g8 g9 g10 g11 g12 g13 g14 g15
    refine Calls.mono (refReq_out r [.int .i8 q0, .string q1, .slice d0 d1 d2, .slice a0 a1 a2, .int .i32 q4, .bool q5, .bool q6, .int .i64 q7, .int .i32 q8, .slice e0 e1 e2, .slice o0 o1 o2] B v5b (be4 ep ++ be4 tn ++ [srv % 256] ++ be4 boot ++ be8 (up64 num)) _ w1 HRB.out.2.1 (HRB.out.1 _ HB4.out) HRB.out.2.2 HG.out.rq HM HR4.out.own HR4.out.base (by simp [be4, be8])) ?_
    rintro e w6 ⟨v6, rfl, hv6⟩
    have HF : Hid (Owns w6 w.heap.size v6 Z ∧ Below w.heap.size w w6) := by
      have h1 := HR4.out.trans hv6
      refine ⟨?_, HQB.out.1.trans ((h1.below HQ.out.1 HQ.out.2).mono HQB.out.2)⟩
      rw [HZ.out, HTB.out]
      exact owns_mono h1.own HQB.out.2
    clear hv6 HR4 HB4
    go_wp2_with fail
    go_ret2
    exact ⟨_, rfl, HF.out⟩
end Go.Proofs.YtobnggkgpenmfaaGreatDoor
