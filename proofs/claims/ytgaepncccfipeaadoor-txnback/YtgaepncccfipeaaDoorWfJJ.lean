/- get of package txn at bytes that were laid: every transaction's request. -/
import Derived.Test.YtgaepncccfipeaaDoorWfIJ
namespace Go.Proofs.YtgaepncccfipeaaDoor
open Go.RowKit
set_option maxRecDepth 8000

theorem get_out6 (f : RqF) (n : Nat) (ops : Fin n → Rq) (hk : f.kind = 6) (hfl : flatOk 8 0 f n = true) (hbd : bdOk f = true) (hgf : f.good) (hok : ∀ i, (ops i).inOk = true) (hgd : ∀ i, (ops i).good) (hn8 : n ≤ 8) (g : Nat) (v : Value) (rest : List Int) (w : World) (h : IsR w g v (encP false false false false false true false true f (be4 n ++ opsB ops n) ++ rest) 0) (hb : Byts (encP false false false false false true false true f (be4 n ++ opsB ops n) ++ rest)) (hn : Nam w) (hg : 0 < g) :
    GetsRq 8 0 g v (.mk f n ops) rest w := by
  have hN : nms 8 0 f.kind = 832 := by rw [hk]; decide
  simp only [flatOk, Bool.and_eq_true] at hfl
  rw [hN] at hfl
  have hz := hfl.1.2
  unfold fz at hz
  rw [gz_832] at hz
  simp only [Bool.and_eq_true, Bool.not_eq_true'] at hz
  obtain ⟨⟨⟨⟨⟨⟨q0, q1⟩, q2⟩, q3⟩, q4⟩, q5⟩, q7⟩ := hz
  have hbi := bdOk_inv hbd
  obtain ⟨kind, path, data, acl, ver, eph, seq, ses, tmo, who⟩ := f
  simp only at hk q0 q1 q2 q3 q4 q5 q7 hbi h hb
  have e0 := text_nil q0
  have e1 : data = [] := List.eq_nil_of_length_eq_zero (by simpa using q1)
  have e2 : acl = [] := List.eq_nil_of_length_eq_zero (by simpa using q2)
  have e3 : ver = 0 := by simpa using q3
  have e7 : tmo = 0 := by simpa using q7
  subst hk e0 e1 e2 e3 q4 q5 e7
  have eb : encP false false false false false true false true ⟨6, ⟨#[]⟩, [], [], 0, false, false, ses, 0, who⟩ (be4 n ++ opsB ops n) ++ rest = [6] ++ (be8 (up64 ses) ++ ((be4 who.length ++ idsB who) ++ ((be4 n ++ opsB ops n) ++ rest))) := by simp [encP]
  rw [eb] at h hb
  refine (get_multi ses who n ops g v rest w hok hgd hn8 h hb hn hg hgf.s0 hgf.s1 hbi.2.2.2.2.2.2.2.1 hbi.2.2.2.2.2.2.2.2).mono ?_
  rintro e w' ⟨wa, wc', oa, oc', cs, rfl, h1, h2, h3, h4, h5, h6, h7⟩
  have hcs : cs = List.ofFn fun i : Fin n => cs[i.1]'(by omega) := by
    apply List.ext_getElem
    · simp [h3]
    · intro i h1 h2; simp
  rw [hcs] at h4
  exact ⟨[.int .i8 6, .string ⟨#[]⟩, .slice none 0 0, .slice none 0 0, .int .i32 0, .bool false, .bool false, .int .i64 ses, .int .i32 0, .slice wa who.length wc', .slice oa n oc'], rfl, rfl, .mk ⟨6, ⟨#[]⟩, [], [], 0, false, false, ses, 0, who⟩ n ops (.slice none 0 0) (.slice none 0 0) (.slice wa who.length wc') (.slice oa n oc') (fun i : Fin n => cs[i.1]'(by omega)) (sees_nil _) (SeesR.nil _ _) h1 h4 (fun k e => by simp [Value.ownBlock] at e) (fun k e => by simp [Value.ownBlock] at e) (fun k e => .inr (h2 k e)) (fun k e => .inr (h5 k e)) (fun i => h6 i.1 (by omega) i.2), h7⟩

theorem getOut_bk (r : Rq) (hok : mayP 8 0 r = true) (hg : r.good) (g : Nat) (v : Value) (rest : List Int) (w : World) (h : IsR w g v (encOut r ++ rest) 0) (hb : Byts (encOut r ++ rest)) (hn : Nam w) (hg0 : 0 < g) : GetsRq 8 0 g v r rest w := by
  cases r with
  | mk f n ops =>
    obtain ⟨h1, h8, hbd, hn8, hin⟩ := mayP_inv hok
    have hfl : flatOk 8 0 f n = true := by
      simp only [mayP, Bool.and_eq_true] at hok
      exact hok.1
    rw [encOut_mk] at h hb
    by_cases k1 : f.kind = 1
    · rw [if_pos k1, encP_more] at h hb; exact get_out1 f n ops k1 hfl hbd hg.1 g v rest w h hb hn hg0
    rw [if_neg k1] at h hb
    by_cases k3 : f.kind = 3
    · rw [if_pos k3, encP_more] at h hb; exact get_out3 f n ops k3 hfl hbd hg.1 g v rest w h hb hn hg0
    rw [if_neg k3] at h hb
    by_cases k4 : f.kind = 4
    · rw [if_pos k4, encP_more] at h hb; exact get_out4 f n ops k4 hfl hbd hg.1 g v rest w h hb hn hg0
    rw [if_neg k4] at h hb
    by_cases k6 : f.kind = 6
    · rw [if_pos k6] at h hb; exact get_out6 f n ops k6 hfl hbd hg.1 hin hg.2.2 hn8 g v rest w h hb hn hg0
    rw [if_neg k6] at h hb
    by_cases k7 : f.kind = 7
    · rw [if_pos k7, encP_more] at h hb; exact get_out7 f n ops k7 hfl hbd hg.1 g v rest w h hb hn hg0
    rw [if_neg k7] at h hb
    by_cases k8 : f.kind = 8
    · rw [if_pos k8, encP_more] at h hb; exact get_out8 f n ops k8 hfl hbd hg.1 g v rest w h hb hn hg0
    rw [if_neg k8, encP_more] at h hb
    by_cases k2 : f.kind = 2
    · exact get_out2 f n ops k2 hfl hbd hg.1 g v rest w h hb hn hg0
    · exact get_out5 f n ops (by omega) hfl hbd hg.1 g v rest w h hb hn hg0
end Go.Proofs.YtgaepncccfipeaaDoor
