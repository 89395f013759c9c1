/- Check of the document's layer 4, for every transaction. -/
import Derived.Test.YtldcbabgommghaaGreatDoorWdTJ
import Derived.Test.YtldcbabgommghaaGreatDoorRqLJ
import Derived.Test.YtldcbabgommghaaGreatDoorEqRJ
import Derived.Test.YtldcbabgommghaaGreatDoorWdRJ
import Derived.Test.YtldcbabgommghaaGreatDoorCopyTJ
import Derived.Test.YtldcbabgommghaaGreatDoorPkKJ
import Derived.Laws.FloatArith
import Derived.Laws.NewFold
import Derived.Deep.MidRow
import Derived.Deep.CutRange
import Derived.BigQuiet
import Derived.Deep.RegionHeld
import Derived.Deep.RegionHeld2
namespace Go.Proofs.YtldcbabgommghaaGreatDoor
open Go.RowKit
set_option maxRecDepth 8000

set_option maxHeartbeats 4000000 in
theorem refCheck_any (cs : List Value) (t : TxD) (w : World) (h : SeesTx w cs t) (hg : t.good) :
    Calls Tryz.prog 24 #[.agg cs.toArray] w fun r w' => r = .returned (.int .i64 (if txOk t then 0 else 40)) ∧ Below w.heap.size w w' := by
  obtain ⟨E, hE⟩ : ∃ E : Int, E = (if txOk t then 0 else 40) := ⟨_, rfl⟩
  rw [← hE]
  rw [txOk_ref] at hE
  obtain ⟨rc, rfl, hr⟩ := h
  obtain ⟨ep, tn, srv, boot, num, rq⟩ := t
  obtain ⟨h1, h2, h3, h4, h5, h6, h7, h8, h9, h10, hgr⟩ := hg
  simp only at h1 h2 h3 h4 h5 h6 h7 h8 h9 h10 hgr hr hE
  cases rq with
  | mk f n ops =>
    have HX : Hid (∀ W : World, Below w.heap.size w W → Calls Tryz.prog 45 #[.agg rc.toArray] W fun r w' => r = .returned (.int .i64 (if (Rq.mk f n ops).refOk then 0 else 40)) ∧ Below W.heap.size W w') := fun W hW =>
      refCheckRequest_any f n ops rc W (hr.later hW (Nat.le_refl _)) hgr
    obtain ⟨dv, av, wv, ov, oc, rfl, hd, ha, hw, ho, _⟩ := rq_inv hr
    have hkk : (Rq.mk f n ops).f.kind = f.kind := rfl
    simp only [hkk] at hE
    have gk0 := hgr.1.k0
    have gk1 := hgr.1.k1
    generalize (Rq.mk f n ops).refOk = R at *
    obtain ⟨kind, path, data, acl, ver, eph, seq, ses, tmo, who⟩ := f
    simp only at hd ha hw gk0 gk1 hE
    obtain ⟨da, dl, dc, rfl⟩ := sees_form hd
    obtain ⟨aa, al, ac, rfl⟩ := seesR_form ha
    obtain ⟨wa, wl, wc', rfl⟩ := seesR_form hw
    obtain ⟨oa, ol, occ, rfl⟩ := seesR_form ho
    clear hd ha hw ho hr hkk hgr
    simp only [rqCells] at HX
    simp only [rqCells, txHead, List.cons_append, List.nil_append]
    obtain ⟨F, hF⟩ : ∃ F : Int, F = (if R then 0 else 40) := ⟨_, rfl⟩
    rw [← hF] at HX
    have HB : Hid (∀ o, Below w.heap.size w (w.alloc o)) := fun o => one_alloc w o
    have HY : Hid (∀ o, Calls Tryz.prog 45 #[.agg #[.int .i8 kind, .string path, .slice da dl dc, .slice aa al ac, .int .i32 ver, .bool eph, .bool seq, .int .i64 ses, .int .i32 tmo, .slice wa wl wc', .slice oa ol occ]] (w.alloc o) fun r w' => r = .returned (.int .i64 F) ∧ Below w.heap.size w w') := fun o => by
      refine (HX.out _ (HB.out o)).mono ?_
      rintro _ w1 ⟨rfl, b⟩
      exact ⟨rfl, (HB.out o).trans (b.mono (HB.out o).size)⟩
    clear HX
    have hz : (zxOk ep tn = false ∧ ((ep = 0 ∧ 1 ≤ tn) ∨ (1 ≤ ep ∧ ep ≤ 2147483647 ∧ tn = 0) ∨ 2147483647 < ep)) ∨ (zxOk ep tn = true ∧ ((ep = 0 ∧ tn = 0) ∨ (1 ≤ ep ∧ ep ≤ 2147483647 ∧ 1 ≤ tn))) := by
      unfold zxOk
      by_cases q : (ep = 0 ∧ tn = 0) ∨ (1 ≤ ep ∧ ep ≤ 2147483647 ∧ 1 ≤ tn)
      · right; exact ⟨decide_eq_true q, q⟩
      · left; exact ⟨decide_eq_false q, by omega⟩
    have hob : (origOk srv num = false ∧ (srv < 0 ∨ (0 ≤ srv ∧ 6 < srv) ∨ (0 ≤ srv ∧ srv ≤ 6 ∧ num < 0))) ∨ (origOk srv num = true ∧ 0 ≤ srv ∧ srv ≤ 6 ∧ 0 ≤ num) := by
      unfold origOk
      by_cases q : 0 ≤ srv ∧ srv < 7 ∧ 0 ≤ num
      · right; exact ⟨decide_eq_true q, by omega⟩
      · left; exact ⟨decide_eq_false q, by omega⟩
    have bE : (ep = 0 ∧ (ep == 0) = true ∧ (ep != 0) = false) ∨ (1 ≤ ep ∧ (ep == 0) = false ∧ (ep != 0) = true) := by
      by_cases q : ep = 0
      · left; subst q; exact ⟨rfl, rfl, rfl⟩
      · right; exact ⟨by omega, by simpa using q, by simpa using q⟩
    have bN : (tn = 0 ∧ (tn == 0) = true ∧ (tn != 0) = false) ∨ (1 ≤ tn ∧ (tn == 0) = false ∧ (tn != 0) = true) := by
      by_cases q : tn = 0
      · left; subst q; exact ⟨rfl, rfl, rfl⟩
      · right; exact ⟨by omega, by simpa using q, by simpa using q⟩
    rcases hz with ⟨z0, z1⟩ | ⟨z0, z1⟩
    · have hE2 : E = 40 := by rw [hE, z0]; rfl
      subst hE2
      clear hE hob z0 hF
      go_enter Tryz.func24, Tryz.ntmps24
      rcases bE with ⟨y1, y2, y3⟩ | ⟨y1, y2, y3⟩ <;> rcases bN with ⟨y4, y5, y6⟩ | ⟨y4, y5, y6⟩ <;> rcases z1 with ⟨z1, z2⟩ | ⟨z1, z2, z3⟩ | z1
      all_goals try (exfalso; omega)
      all_goals go_wp2_with fail
      all_goals go_ret
      all_goals exact ⟨rfl, HB.out _⟩
    · rw [z0] at hE
      clear z0
      rcases hob with ⟨o0, o1⟩ | ⟨o0, o1, o2, o3⟩
      · have hE2 : E = 40 := by rw [hE, o0]; rfl
        subst hE2
        clear hE o0 hF
        go_enter Tryz.func24, Tryz.ntmps24
        rcases bE with ⟨y1, y2, y3⟩ | ⟨y1, y2, y3⟩ <;> rcases bN with ⟨y4, y5, y6⟩ | ⟨y4, y5, y6⟩ <;> rcases z1 with ⟨z1, z2⟩ | ⟨z1, z2, z3⟩ <;> rcases o1 with o1 | ⟨o1, o2⟩ | ⟨o1, o2, o3⟩
        all_goals try (exfalso; omega)
        all_goals go_wp2_with fail
        all_goals go_ret
        all_goals exact ⟨rfl, HB.out _⟩
      · rw [o0] at hE
        clear o0
        by_cases hk : kind ≤ 8
        · have hE2 : E = F := by rw [hE, hF, decide_eq_true hk]; simp
          subst hE2
          clear hE hF
          go_enter Tryz.func24, Tryz.ntmps24
          rcases bE with ⟨y1, y2, y3⟩ | ⟨y1, y2, y3⟩ <;> rcases bN with ⟨y4, y5, y6⟩ | ⟨y4, y5, y6⟩ <;> rcases z1 with ⟨z1, z2⟩ | ⟨z1, z2, z3⟩
          all_goals try (exfalso; omega)
          all_goals
            go_wp2_with fail
            refine (HY.out _).mono ?_
            rintro _ w1 ⟨rfl, b⟩
            have HB1 : Hid _ := b
            clear b HY HB
            go_wp2_with fail
            go_ret
            exact ⟨rfl, HB1.out⟩
        · have hE2 : E = 40 := by rw [hE, decide_eq_false hk]; simp
          subst hE2
          clear hE hF
          go_enter Tryz.func24, Tryz.ntmps24
          rcases bE with ⟨y1, y2, y3⟩ | ⟨y1, y2, y3⟩ <;> rcases bN with ⟨y4, y5, y6⟩ | ⟨y4, y5, y6⟩ <;> rcases z1 with ⟨z1, z2⟩ | ⟨z1, z2, z3⟩
          all_goals try (exfalso; omega)
          all_goals go_wp2_with fail
          all_goals go_ret
          all_goals exact ⟨rfl, HB.out _⟩
end Go.Proofs.YtldcbabgommghaaGreatDoor

/- Letters, has, conn and zxid of the document's layer 15. -/
namespace Go.Proofs.YtldcbabgommghaaGreatDoor
open Go.RowKit
set_option maxRecDepth 8000

def lt15 (k : Int) : ByteArray :=
  if k = 1 then ⟨#[99, 101]⟩ else if k = 2 ∨ k = 8 then ⟨#[99, 108, 112, 101]⟩ else if k = 3 then ⟨#[99, 108, 112, 101, 117, 122, 111]⟩ else if k = 4 ∨ k = 9 ∨ k = 11 ∨ k = 12 then ⟨#[99, 108, 112, 122]⟩
  else if k = 5 ∨ k = 10 then ⟨#[99, 108, 112, 118, 116]⟩ else if k = 6 then ⟨#[99, 108, 112, 102, 98]⟩ else if k = 7 then ⟨#[99, 108, 112, 101, 122]⟩ else if k = 13 then ⟨#[99, 108, 112, 116]⟩ else if k = 14 then ⟨#[99, 108, 112, 115]⟩ else ⟨#[]⟩

theorem letters15_any (k : Int) (w : World) : Calls Tryz.prog 19 #[.int .i8 k] w fun r w' => r = .returned (.string (lt15 k)) ∧ w' = w := by
  go_enter Tryz.func19, Tryz.ntmps19
  go_wp2
  all_goals (go_ret; refine ⟨?_, rfl⟩; unfold lt15; simp at *; simp [*])

set_option maxHeartbeats 1000000 in
theorem has15_any (s : ByteArray) (c : Int) (w : World) (hs : s.size ≤ 1000) : Calls Tryz.prog 21 #[.string s, .int .u8 c] w fun r w' => r = .returned (.bool (hasB s c)) ∧ w' = w := by
  go_enter Tryz.func21, Tryz.ntmps21
  go_wp2
  go_loop [5] (fun i => ∃ k : Nat, k ≤ s.size ∧ i = .int .i64 k ∧ Hid (∀ j (hj : j < s.size), j < k → ((s[j]).toNat : Int) ≠ c)) (fun i => s.size - (intOf i).toNat)
  case atStart => exact ⟨0, Nat.zero_le _, rfl, fun j _ h => by omega⟩
  case round =>
    obtain ⟨k, hk, rfl, HN⟩ := hrel
    by_cases hlt : k < s.size
    · by_cases he : ((s[k]).toNat : Int) = c
      · have HT : Hid (hasB s c = true) := hasB_true hlt he
        have he' : (((s[k]).toNat : Int) == c) = true := by simpa using he
        go_wp2
        all_goals (go_ret; exact ⟨by rw [HT.out]; rfl, rfl⟩)
      · have HN2 : Hid (∀ j (hj : j < s.size), j < k + 1 → ((s[j]).toNat : Int) ≠ c) := fun j hj h => by
          by_cases e : j = k
          · subst e; exact he
          · exact HN.out j hj (by omega)
        have he' : (((s[k]).toNat : Int) == c) = false := by simpa using he
        go_wp2
        go_round
        case rel => exact ⟨k + 1, by omega, by go_num, HN2⟩
        case measure => simp [intOf]; omega
    · have HF : Hid (hasB s c = false) := hasB_false (fun i hi => HN.out i hi (by omega))
      go_wp2
      go_ret
      exact ⟨by rw [HF.out]; rfl, rfl⟩

theorem lt15_size (k : Int) : (lt15 k).size ≤ 1000 := by
  unfold lt15
  repeat' split
  all_goals decide

def rConn (b t : Int) (is : Bool) : Bool := if is then decide (0 < b ∧ 0 < t) else decide (b = 0 ∧ t = 0)
theorem rConn_any (b t : Int) (is : Bool) (w : World) : Calls Tryz.prog 20 #[.agg #[.int .u32 b, .int .u32 t], .bool is] w fun r w' => r = .returned (.bool (rConn b t is)) ∧ Below w.heap.size w w' := by
  have hB := one_alloc w
  cases is
  · go_enter Tryz.func20, Tryz.ntmps20
    go_wp2
    all_goals (go_ret; refine ⟨?_, hB _⟩; unfold rConn; (try simp at *); (try simp [*]); first | done | rfl | omega)
  · go_enter Tryz.func20, Tryz.ntmps20
    go_wp2
    all_goals (go_ret; refine ⟨?_, hB _⟩; unfold rConn; (try simp at *); (try simp [*]); first | done | rfl | omega)

def rZx (e n : Int) (is : Bool) : Bool := decide (e = 0 ∧ n = 0) || is && decide (0 < e ∧ e ≤ 2147483647 ∧ 0 < n)
set_option maxHeartbeats 1000000 in
theorem rZx_any (e n : Int) (is : Bool) (w : World) : Calls Tryz.prog 22 #[zx e n, .bool is] w fun r w' => r = .returned (.bool (rZx e n is)) ∧ Below w.heap.size w w' := by
  have hB := one_alloc w
  cases is
  · go_enter Tryz.func22, Tryz.ntmps22
    go_wp2
    all_goals (go_ret; refine ⟨?_, hB _⟩; unfold rZx; (try simp at *); (try simp [*]); first | done | rfl | omega)
  · go_enter Tryz.func22, Tryz.ntmps22
    go_wp2
    all_goals (go_ret; refine ⟨?_, hB _⟩; unfold rZx; (try simp at *); (try simp [*]); first | done | rfl | omega)
end Go.Proofs.YtldcbabgommghaaGreatDoor

/- EqAcl and EqIds of lagoonref00 at any two lists: true only where the data are the same; nothing is changed. -/
namespace Go.Proofs.YtldcbabgommghaaGreatDoor
open Go.RowKit
set_option maxRecDepth 8000

theorem eqIdInV (d : Nat) (a b c e : ByteArray) (w : World) : (Op.equalIn (d + 1 + 1) 129 (.agg #[.string a, .string b]) (.agg #[.string c, .string e])).run Tryz.prog w = .ok ((a.toList == c.toList) && (b.toList == e.toList)) w := by
  have hu : Tryz.prog.underlying 129 = some (.struct (Tryz.prog.fieldsOf 129)) := by kernel_rfl
  have hp : Tryz.prog.stoodInHeld 129 = false := by kernel_rfl
  have u3 := Tryz.underlying9
  have a3 := Tryz.isAgg9
  have z3 := Tryz.sizeOf9
  rw [run_equalIn_agg w (d + 1) _ _ _ hu hp]
  simp only [Program.fieldsOf, Tryz.underlying129]
  clear hu hp
  go_simp
  by_cases h1 : a.toList = c.toList <;> by_cases h2 : b.toList = e.toList <;> simp [h1, h2]

theorem neqIdV (a b c e : ByteArray) (w : World) : (binOp .neq 129 (.agg #[.string a, .string b]) (.agg #[.string c, .string e])).run Tryz.prog w = .ok (.bool (!((a.toList == c.toList) && (b.toList == e.toList)))) w := by
  have := eqIdInV 9998 a b c e w
  rw [run_neq_struct]
  rw [show (10000 : Nat) = 9998 + 1 + 1 from rfl, this]
  rfl

theorem neqEnV (p q : Int) (a b c e : ByteArray) (w : World) : (binOp .neq 131 (.agg #[.int .i8 p, .string a, .string b]) (.agg #[.int .i8 q, .string c, .string e])).run Tryz.prog w = .ok (.bool (!((p == q) && ((a.toList == c.toList) && (b.toList == e.toList))))) w := by
  have hu : Tryz.prog.underlying 131 = some (.struct (Tryz.prog.fieldsOf 131)) := by kernel_rfl
  have hp : Tryz.prog.stoodInHeld 131 = false := by kernel_rfl
  have hin : ∀ w, (Op.equalIn 9999 129 (.agg #[.string a, .string b]) (.agg #[.string c, .string e])).run Tryz.prog w = .ok ((a.toList == c.toList) && (b.toList == e.toList)) w := eqIdInV 9997 a b c e
  have u4 := Tryz.underlying22
  have a4 := Tryz.isAgg22
  have z4 := Tryz.sizeOf22
  have a5 := Tryz.isAgg129
  have z5 := Tryz.sizeOf129
  rw [run_neq_struct, show (10000 : Nat) = 9999 + 1 from rfl, run_equalIn_agg w 9999 _ _ _ hu hp]
  simp only [Program.fieldsOf, Tryz.underlying131]
  clear hu hp
  go_simp
  by_cases h0 : p = q <;> by_cases h1 : a.toList = c.toList <;> by_cases h2 : b.toList = e.toList <;> simp [h0, h1, h2]

theorem bytes_same {a b : ByteArray} (h : (a.toList == b.toList) = true) : a = b := by
  have : a.toList = b.toList := by simpa using h
  rw [ByteArray.toList_eq, ByteArray.toList_eq] at this
  obtain ⟨⟨x⟩⟩ := a
  obtain ⟨⟨y⟩⟩ := b
  simp at this
  rw [this]

set_option maxHeartbeats 800000 in
theorem eqIds_sound (v u : Value) (l m : List IdD) (w : World) (h : SeesR w v 2 (l.map IdD.cells)) (g : SeesR w u 2 (m.map IdD.cells)) :
    Calls Tryz.prog 61 #[v, u] w fun e w' => ∃ b : Bool, e = .returned (.bool b) ∧ (b = true → l = m) ∧ ∃ n, w' = w.drewN n := by
  obtain ⟨ao, cap, rfl, hlc, hcm, _, h3⟩ := h
  obtain ⟨bo, cbp, rfl, glc, gcm, _, g3⟩ := g
  unfold maxLen at hcm gcm
  have hg : Tryz.prog.eqGuardType Tryz.prog.depth 129 = false := by kernel_rfl
  simp only [List.length_map] at hlc glc ⊢
  by_cases hlm : l.length = m.length
  · have HLM : Hid _ := hlm
    rw [← hlm] at glc ⊢
    clear hlm
    go_enter Tryz.func61, Tryz.ntmps61
    go_wp2
    go_loopw [4, 5] (fun _ i wr => ∃ k n : Nat, k ≤ l.length ∧ i = .int .i64 k ∧ wr = w.drewN n ∧ Hid (l.take k = m.take k)) (fun _ i _ => l.length - (intOf i).toNat)
    case atStart => exact ⟨0, 0, Nat.zero_le _, rfl, rfl, rfl⟩
    case round =>
      obtain ⟨k, n, hk, rfl, rfl, HT⟩ := hrel
      by_cases hlt : k < l.length
      · have hlt' : k < m.length := by rw [← HLM.out]; exact hlt
        rcases h3 with h3 | ⟨b, off, rfl, h3⟩
        · have : l.length = 0 := by simpa using congrArg List.length h3
          omega
        · rcases g3 with g3 | ⟨b', off', rfl, g3⟩
          · have : m.length = 0 := by simpa using congrArg List.length g3
            omega
          · have c0 := h3 k (by simpa using hlt) 0 (by omega)
            have c1 := h3 k (by simpa using hlt) 1 (by omega)
            have e0 := g3 k (by simpa using hlt') 0 (by omega)
            have e1 := g3 k (by simpa using hlt') 1 (by omega)
            simp [IdD.cells] at c0 c1 e0 e1
            have HN : Hid (l[k] = m[k] → l.take (k + 1) = m.take (k + 1)) := fun e => by
              rw [List.take_succ_eq_append_getElem hlt, List.take_succ_eq_append_getElem hlt', HT.out, e]
            clear h3 g3 HT
            generalize l[k] = x at *
            generalize m[k] = y at *
            clear hlt'
            have hq := neqIdV x.scheme x.name y.scheme y.name
            cases hb : ((x.scheme.toList == y.scheme.toList) && (x.name.toList == y.name.toList)) with
            | true =>
              have HN' : Hid (l.take (k + 1) = m.take (k + 1)) := by
                refine HN.out ?_
                simp only [Bool.and_eq_true] at hb
                obtain ⟨xs, xn⟩ := x
                obtain ⟨ys, yn⟩ := y
                have h1 := bytes_same hb.1
                have h2 := bytes_same hb.2
                simp only at h1 h2
                rw [h1, h2]
              rw [hb] at hq
              clear HN hb
              go_wp2
              go_quiet (fail)
              go_wp2
              go_roundw
              case rel => exact ⟨k + 1, _, by omega, by go_num, rfl, HN'⟩
              case measure => simp [intOf]; omega
            | false =>
              rw [hb] at hq
              clear HN hb
              go_wp2
              go_quiet (fail)
              go_wp2
              go_ret
              exact ⟨false, rfl, (fun h => by cases h), n + nq, by simp⟩
      · obtain rfl : k = l.length := by omega
        have HE : Hid (l = m) := by
          have := HT.out
          rw [List.take_length, HLM.out, List.take_length] at this
          exact this
        clear HT
        go_wp2
        go_ret
        exact ⟨true, rfl, fun _ => HE.out, n, rfl⟩
  · have hne : ((l.length : Int) != (m.length : Int)) = true := by simp; omega
    clear h3 g3
    go_enter Tryz.func61, Tryz.ntmps61
    go_wp2
    go_ret
    exact ⟨false, rfl, (fun h => by cases h), 0, rfl⟩
set_option maxHeartbeats 800000 in
theorem eqAcl_sound (v u : Value) (l m : List EnD) (w : World) (h : SeesR w v 3 (l.map EnD.cells)) (g : SeesR w u 3 (m.map EnD.cells)) :
    Calls Tryz.prog 60 #[v, u] w fun e w' => ∃ b : Bool, e = .returned (.bool b) ∧ (b = true → l = m) ∧ ∃ n, w' = w.drewN n := by
  obtain ⟨ao, cap, rfl, hlc, hcm, _, h3⟩ := h
  obtain ⟨bo, cbp, rfl, glc, gcm, _, g3⟩ := g
  unfold maxLen at hcm gcm
  have hg : Tryz.prog.eqGuardType Tryz.prog.depth 131 = false := by kernel_rfl
  simp only [List.length_map] at hlc glc ⊢
  by_cases hlm : l.length = m.length
  · have HLM : Hid _ := hlm
    rw [← hlm] at glc ⊢
    clear hlm
    go_enter Tryz.func60, Tryz.ntmps60
    go_wp2
    go_loopw [4, 5] (fun _ i wr => ∃ k n : Nat, k ≤ l.length ∧ i = .int .i64 k ∧ wr = w.drewN n ∧ Hid (l.take k = m.take k)) (fun _ i _ => l.length - (intOf i).toNat)
    case atStart => exact ⟨0, 0, Nat.zero_le _, rfl, rfl, rfl⟩
    case round =>
      obtain ⟨k, n, hk, rfl, rfl, HT⟩ := hrel
      by_cases hlt : k < l.length
      · have hlt' : k < m.length := by rw [← HLM.out]; exact hlt
        rcases h3 with h3 | ⟨b, off, rfl, h3⟩
        · have : l.length = 0 := by simpa using congrArg List.length h3
          omega
        · rcases g3 with g3 | ⟨b', off', rfl, g3⟩
          · have : m.length = 0 := by simpa using congrArg List.length g3
            omega
          · have c0 := h3 k (by simpa using hlt) 0 (by omega)
            have c1 := h3 k (by simpa using hlt) 1 (by omega)
            have e0 := g3 k (by simpa using hlt') 0 (by omega)
            have e1 := g3 k (by simpa using hlt') 1 (by omega)
            have c2 := h3 k (by simpa using hlt) 2 (by omega)
            have e2 := g3 k (by simpa using hlt') 2 (by omega)
            simp [EnD.cells] at c0 c1 c2 e0 e1 e2
            have HN : Hid (l[k] = m[k] → l.take (k + 1) = m.take (k + 1)) := fun e => by
              rw [List.take_succ_eq_append_getElem hlt, List.take_succ_eq_append_getElem hlt', HT.out, e]
            clear h3 g3 HT
            generalize l[k] = x at *
            generalize m[k] = y at *
            clear hlt'
            have hq := neqEnV x.perms y.perms x.id.scheme x.id.name y.id.scheme y.id.name
            cases hb : ((x.perms == y.perms) && ((x.id.scheme.toList == y.id.scheme.toList) && (x.id.name.toList == y.id.name.toList))) with
            | true =>
              have HN' : Hid (l.take (k + 1) = m.take (k + 1)) := by
                refine HN.out ?_
                simp only [Bool.and_eq_true] at hb
                obtain ⟨xp, xs, xn⟩ := x
                obtain ⟨yp, ys, yn⟩ := y
                have h0 : xp = yp := by simpa using hb.1
                have h1 := bytes_same hb.2.1
                have h2 := bytes_same hb.2.2
                simp only at h1 h2
                rw [h0, h1, h2]
              rw [hb] at hq
              clear HN hb
              go_wp2
              go_quiet (fail)
              go_wp2
              go_roundw
              case rel => exact ⟨k + 1, _, by omega, by go_num, rfl, HN'⟩
              case measure => simp [intOf]; omega
            | false =>
              rw [hb] at hq
              clear HN hb
              go_wp2
              go_quiet (fail)
              go_wp2
              go_ret
              exact ⟨false, rfl, (fun h => by cases h), n + nq, by simp⟩
      · obtain rfl : k = l.length := by omega
        have HE : Hid (l = m) := by
          have := HT.out
          rw [List.take_length, HLM.out, List.take_length] at this
          exact this
        clear HT
        go_wp2
        go_ret
        exact ⟨true, rfl, fun _ => HE.out, n, rfl⟩
  · have hne : ((l.length : Int) != (m.length : Int)) = true := by simp; omega
    clear h3 g3
    go_enter Tryz.func60, Tryz.ntmps60
    go_wp2
    go_ret
    exact ⟨false, rfl, (fun h => by cases h), 0, rfl⟩
end Go.Proofs.YtldcbabgommghaaGreatDoor

/- What txn.Rises answers: do the zxids of a list rise. -/
namespace Go.Proofs.YtldcbabgommghaaGreatDoor
open Go.RowKit
set_option maxRecDepth 8000

end Go.Proofs.YtldcbabgommghaaGreatDoor

/- What choose.Under, choose.Size and choose.sending answer, for all that came in. -/
namespace Go.Proofs.YtldcbabgommghaaGreatDoor
open Go.RowKit
set_option maxRecDepth 8000

end Go.Proofs.YtldcbabgommghaaGreatDoor

/- A list that rises does so from each place; a part of a list, as Go cuts it. No Go function is walked here. -/
namespace Go.Proofs.YtldcbabgommghaaGreatDoor
open Go.RowKit
set_option maxRecDepth 8000

end Go.Proofs.YtldcbabgommghaaGreatDoor

/- What choose.upTo, choose.behind and choose.Way answer, for all that came in. -/
namespace Go.Proofs.YtldcbabgommghaaGreatDoor
open Go.RowKit
set_option maxRecDepth 8000

end Go.Proofs.YtldcbabgommghaaGreatDoor

/- What choose.behind answers, and what choose.Way answers, as data. -/
namespace Go.Proofs.YtldcbabgommghaaGreatDoor
open Go.RowKit
set_option maxRecDepth 8000

theorem cellAt {W : World} {b i : Nat} {cs : Array Value} {t : TypeId} {v : Value} (h : W.heap[b]? = some (.cells cs t (0, 0))) (hv : cs[i]? = some v) : W.cell? ⟨b, i, none⟩ = some v := by rw [cell_of_row _ _ _ _ _ _ h]; exact hv

end Go.Proofs.YtldcbabgommghaaGreatDoor
