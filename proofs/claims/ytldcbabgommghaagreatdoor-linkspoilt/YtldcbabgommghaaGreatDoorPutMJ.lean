/- What put of package txn lays of a Multi's requests, and PutList of them. -/
import Derived.Test.YtldcbabgommghaaGreatDoorPutKJ
import Derived.Test.YtldcbabgommghaaGreatDoorChk5J
import Derived.Test.YtldcbabgommghaaGreatDoorCopyTJ
import Derived.Test.YtldcbabgommghaaGreatDoorPutLJ
namespace Go.Proofs.YtldcbabgommghaaGreatDoor
open Go.RowKit
set_option maxRecDepth 8000

/-- The bytes of a request within a Multi. -/
def encIn : Rq → List Int
  | .mk f _ _ => if f.kind = 1 then encP true true true false true false false false f [] else if f.kind = 3 then encP true true false true false false false false f [] else if f.kind = 4 then encP true false true true false false false false f [] else encP true false false true false false false false f []

theorem encIn_mk (f : RqF) (n : Nat) (ops : Fin n → Rq) : encIn (.mk f n ops) = if f.kind = 1 then encP true true true false true false false false f [] else if f.kind = 3 then encP true true false true false false false false f [] else if f.kind = 4 then encP true false true true false false false false f [] else encP true false false true false false false false f [] := rfl

theorem inOk_inv {f : RqF} {n : Nat} {ops : Fin n → Rq} (h : (Rq.mk f n ops).inOk = true) : 1 ≤ f.kind ∧ f.kind ≤ 5 ∧ bdOk f = true := by
  simp only [Rq.inOk, flatOk, Bool.and_eq_true] at h
  have h1 : nms 5 320 f.kind ≠ 0 := by simpa using h.1.1.1
  refine ⟨?_, ?_, h.2.1⟩
  · by_cases hk : f.kind < 1
    · exact absurd (by unfold nms; rw [if_pos (.inl hk)]) h1
    · omega
  · by_cases hk : 5 < f.kind
    · exact absurd (by unfold nms; rw [if_pos (.inr hk)]) h1
    · omega

theorem putIn_any (r : Rq) (cs : List Value) (B g : Nat) (v : Value) (xs : List Int) (w : World) (hr : RqL w (· < B) cs r) (hok : r.inOk = true) (h : IsW w g v xs) (hx : xs.length ≤ 1000000000000) (hn : Nam w) (hB : 1 < B) (hg : B ≤ g) (hv : ∀ j, v.ownBlock = some j → B ≤ j) :
    Calls Tryz.prog 139 #[lay 5 320, .pointer (some ⟨g, 0, none⟩), .agg cs.toArray] w fun e w' => e = .returned (.tuple #[]) ∧ Puts w g v (xs ++ encIn r) w' := by
  cases hr with
  | mk f n ops dv av wv ov oc hd ha hw ho fd fa fw fo hs =>
    obtain ⟨h1, h2, h3⟩ := inOk_inv hok
    have hl : Lies4 w B f dv av wv := ⟨h3, hd, ha, hw, fd, fa, fw⟩
    have hov := seesR_form ho
    rw [encIn_mk]
    by_cases k1 : f.kind = 1
    · rw [if_pos k1]
      exact put_in1 f dv av wv ov hov B g v xs w k1 hl h hx hn hB hg hv
    · rw [if_neg k1]
      by_cases k3 : f.kind = 3
      · rw [if_pos k3]
        exact put_in3 f dv av wv ov hov B g v xs w k3 hl h hx hn hB hg hv
      · rw [if_neg k3]
        by_cases k4 : f.kind = 4
        · rw [if_pos k4]
          exact put_in4 f dv av wv ov hov B g v xs w k4 hl h hx hn hB hg hv
        · rw [if_neg k4]
          by_cases k2 : f.kind = 2
          · exact put_in2 f dv av wv ov hov B g v xs w k2 hl h hx hn hB hg hv
          · exact put_in5 f dv av wv ov hov B g v xs w (by omega) hl h hx hn hB hg hv

theorem encIn_len (r : Rq) (hok : r.inOk = true) : (encIn r).length ≤ 20000000000 := by
  cases r with
  | mk f n ops =>
    obtain ⟨h1, h2, h3⟩ := inOk_inv hok
    have hb := bdOk_inv h3
    have ha := acB_len f.acl (fun y hy => by have := hb.2.2.2.1 y hy; omega)
    have ht := txtB_len f.path
    rw [encIn_mk]
    split
    · simp [encP, be4]; omega
    · split
      · simp [encP, be4]; omega
      · split
        · simp [encP, be4]; omega
        · simp [encP, be4]; omega

/-- The bytes of a Multi's first k requests. -/
def opsB {n : Nat} (ops : Fin n → Rq) (k : Nat) : List Int := ((List.ofFn fun i : Fin n => encIn (ops i)).take k).flatten
theorem opsB_next {n : Nat} (ops : Fin n → Rq) (k : Nat) (h : k < n) : opsB ops (k + 1) = opsB ops k ++ encIn (ops ⟨k, h⟩) := by
  unfold opsB
  rw [List.take_succ_eq_append_getElem (by simpa using h), List.flatten_append]
  simp
theorem opsB_len {n : Nat} (ops : Fin n → Rq) (hok : ∀ i, (ops i).inOk = true) : ∀ k, k ≤ n → (opsB ops k).length ≤ 20000000000 * k
  | 0, _ => by simp [opsB]
  | k + 1, h => by
    have h1 := opsB_len ops hok k (by omega)
    have h2 := encIn_len (ops ⟨k, by omega⟩) (hok _)
    rw [opsB_next ops k (by omega), List.length_append]
    omega

theorem putDefR (w : World) : CallsD Tryz.prog 171 #[] .returning w fun e u' w' => e = .returned (.tuple #[]) ∧ u' = .returning ∧ w' = w := by
  refine callsD_of_wpS Tryz.func171 rfl fun c₀ cs hu => ?_
  apply wpS_region
  simp [wpOpsS, go_sem, recoverD, hu, Tryz.ntmps171, bodyPostS, results, Tryz.results171]
  cases c₀
  simp_all

set_option maxHeartbeats 4000000 in
theorem putListR_any (B g : Nat) (v u : Value) (xs : List Int) (n : Nat) (oc : Fin n → List Value) (ops : Fin n → Rq) (w : World) (h : IsW w g v xs) (hs : SeesR w u 11 (List.ofFn oc)) (hr : ∀ i, RqL w (· < B) (oc i) (ops i)) (hok : ∀ i, (ops i).inOk = true) (hn8 : n ≤ 8) (hx : xs.length ≤ 100000000000) (hn : Nam w) (hB : 1 < B) (hg : B ≤ g) (hv : ∀ j, v.ownBlock = some j → B ≤ j) (fu : ∀ k, liveB u = some k → k < B) :
    Calls Tryz.prog 152 #[.pointer (some ⟨g, 0, none⟩), u, .func (.func 139) #[lay 5 320] #[]] w fun e w' => e = .returned (.tuple #[]) ∧ Puts w g v (xs ++ (be4 n ++ opsB ops n)) w' := by
  have H : Hid (IsW w g v xs ∧ SeesR w u 11 (List.ofFn oc) ∧ (∀ i, RqL w (· < B) (oc i) (ops i)) ∧ (∀ i, (ops i).inOk = true) ∧ Nam w ∧ 1 < B ∧ B ≤ g ∧ (∀ j, v.ownBlock = some j → B ≤ j) ∧ (∀ k, liveB u = some k → k < B)) := ⟨h, hs, hr, hok, hn, hB, hg, hv, fu⟩
  have HL : Hid (g < w.heap.size ∧ ∀ k, v.ownBlock = some k → k < w.heap.size) := h.lt
  obtain ⟨ao, cap, rfl, hlc, hcm, h0, h3⟩ := hs
  rw [List.length_ofFn] at hlc ⊢
  unfold maxLen at hcm
  clear h h3 h0 hr hok hn hB hg hv fu
  have hfn : ∀ w, (binOp .eql 155 (.func (.func 139) #[lay 5 320] #[]) .nilFunc).run Tryz.prog w = .ok (.bool false) w := fun _ => by kernel_rfl
  go_enter_defers Tryz.func152, Tryz.ntmps152
  go_wp2_with fail
  refine (wInt32_any g v xs n _ H.out.1 (by omega)).mono ?_
  rintro e w1 ⟨rfl, hp⟩
  rw [show up32 (n : Int) = n by unfold up32; omega] at hp
  have HP : Hid (Puts w g v (xs ++ be4 n) w1) := hp
  clear hp
  go_wp2
  go_loopw [7, 19] (fun _ i wr => ∃ k : Nat, k ≤ n ∧ i = .int .i64 k ∧ Puts w g v (xs ++ be4 n ++ opsB ops k) wr) (fun _ i _ => n - (intOf i).toNat)
  case atStart => exact ⟨0, Nat.zero_le _, rfl, by simpa [opsB] using HP.out⟩
  case round =>
    clear HP
    obtain ⟨k, hk, rfl, hp⟩ := hrel
    have HP : Hid (Puts w g v (xs ++ be4 n ++ opsB ops k) wr) := hp
    clear hp
    by_cases hlt : k < n
    · obtain ⟨ao', cap', e, _, _, _, h3⟩ := H.out.2.1
      simp at e
      obtain ⟨rfl, rfl⟩ := e
      rcases h3 with h3 | ⟨b, off, rfl, h3⟩
      · have : n = 0 := by simpa using congrArg List.length h3
        omega
      · have hb := H.out.2.2.2.2.2.2.2.2 b (live_at (by rw [List.length_ofFn]; omega))
        have hbg : b ≠ g := by have := H.out.2.2.2.2.2.2.1; omega
        have hbv : v.ownBlock ≠ some b := fun e => by have := H.out.2.2.2.2.2.2.2.1 b e; omega
        obtain ⟨q0, q1, d0, d1, d2, a0, a1, a2, q4, q5, q6, q7, q8, e0, e1, e2, o0, o1, o2, hcs⟩ := rq_forms (H.out.2.2.1 ⟨k, hlt⟩).sees
        have hat : ∀ j, j < 11 → wr.cell? ⟨b, off + k * 11 + j, none⟩ = some ((oc ⟨k, hlt⟩).getD j (.bool false)) := fun j hj => by
          have := HP.out.cell (h3 k (by simpa using hlt) j hj) hbg hbv
          simpa using this
        rw [hcs] at hat
        have g0 : wr.cell? ⟨b, off + k * 11, none⟩ = some (.int .i8 q0) := hat 0 (by omega)
        have g1 : wr.cell? ⟨b, off + k * 11 + 1, none⟩ = some (.string q1) := hat 1 (by omega)
        have g2 : wr.cell? ⟨b, off + k * 11 + 2, none⟩ = some (.slice d0 d1 d2) := hat 2 (by omega)
        have g3 : wr.cell? ⟨b, off + k * 11 + 3, none⟩ = some (.slice a0 a1 a2) := hat 3 (by omega)
        have g4 : wr.cell? ⟨b, off + k * 11 + 4, none⟩ = some (.int .i32 q4) := hat 4 (by omega)
        have g5 : wr.cell? ⟨b, off + k * 11 + 5, none⟩ = some (.bool q5) := hat 5 (by omega)
        have g6 : wr.cell? ⟨b, off + k * 11 + 6, none⟩ = some (.bool q6) := hat 6 (by omega)
        have g7 : wr.cell? ⟨b, off + k * 11 + 7, none⟩ = some (.int .i64 q7) := hat 7 (by omega)
        have g8 : wr.cell? ⟨b, off + k * 11 + 8, none⟩ = some (.int .i32 q8) := hat 8 (by omega)
        have g9 : wr.cell? ⟨b, off + k * 11 + 9, none⟩ = some (.slice e0 e1 e2) := hat 9 (by omega)
        have g10 : wr.cell? ⟨b, off + k * 11 + 10, none⟩ = some (.slice o0 o1 o2) := hat 10 (by omega)
        have HT : Hid (opsB ops (k + 1) = opsB ops k ++ encIn (ops ⟨k, hlt⟩)) := opsB_next ops k hlt
        have HN : Hid ((opsB ops k).length ≤ 20000000000 * k) := opsB_len ops H.out.2.2.2.1 k (by omega)
        have HX : Hid (∀ (W : World) (vk : Value), Puts w g v (xs ++ be4 n ++ opsB ops k) W → IsW W g vk (xs ++ be4 n ++ opsB ops k) → NewRow w v vk → Calls Tryz.prog 139 #[lay 5 320, .pointer (some ⟨g, 0, none⟩), .agg #[.int .i8 q0, .string q1, .slice d0 d1 d2, .slice a0 a1 a2, .int .i32 q4, .bool q5, .bool q6, .int .i64 q7, .int .i32 q8, .slice e0 e1 e2, .slice o0 o1 o2]] W fun e w' => e = .returned (.tuple #[]) ∧ Puts W g vk ((xs ++ be4 n ++ opsB ops k) ++ encIn (ops ⟨k, hlt⟩)) w') := fun W vk hp hW hN' => by
          obtain ⟨v1, _, _, p3⟩ := id hp
          have hin := RqL.kept p3 (F' := (· < B)) (fun q hq => ⟨fun e => by
            have := H.out.2.2.2.2.2.2.1
            rcases e with e | e
            · omega
            · have := H.out.2.2.2.2.2.2.2.1 q e; omega, hq⟩) (H.out.2.2.1 ⟨k, hlt⟩)
          rw [hcs] at hin
          refine putIn_any (ops ⟨k, hlt⟩) _ B g vk _ W hin (H.out.2.2.2.1 _) hW (by have := HN.out; rw [List.length_append, List.length_append, be4_length]; omega) (hp.nam H.out.2.2.2.2.1 (by have := H.out.2.2.2.2.2.1; have := H.out.2.2.2.2.2.2.1; omega) (fun q hq => by have := H.out.2.2.2.2.2.2.2.1 q hq; have := H.out.2.2.2.2.2.1; omega)) H.out.2.2.2.2.2.1 H.out.2.2.2.2.2.2.1 (fun q hq => ?_)
          rcases hN' with e | ⟨q', e, hq'⟩
          · exact H.out.2.2.2.2.2.2.2.1 q (by rw [← e]; exact hq)
          · rw [hq] at e
            simp at e
            have := H.out.2.2.2.2.2.2.1
            have := HL.out.1
            omega
        clear h3 hat hcs hb hbg hbv
        go_wp2_with fail
        have hpa := HP.out.later (one_alloc wr (.cells #[.int .i8 q0, .string q1, .slice d0 d1 d2, .slice a0 a1 a2, .int .i32 q4, .bool q5, .bool q6, .int .i64 q7, .int .i32 q8, .slice e0 e1 e2, .slice o0 o1 o2] 35))
        obtain ⟨vk, hW, hNw, hK⟩ := id hpa
        refine (HX.out _ vk hpa hW hNw).mono ?_
        rintro e w2 ⟨rfl, hp2⟩
        have hp3 := Puts.next hNw hK hp2
        rw [List.append_assoc, ← HT.out] at hp3
        have HP2 : Hid (Puts w g v (xs ++ be4 n ++ opsB ops (k + 1)) w2) := hp3
        clear hp2 hp3 hW hNw hK hpa
        go_wp2
        go_roundw
        case rel => exact ⟨k + 1, by omega, by go_num, HP2.out⟩
        case measure => simp [intOf]; omega
    · obtain rfl : k = n := by omega
      have HQ : Hid (Puts w g v (xs ++ (be4 k ++ opsB ops k)) wr) := by rw [← List.append_assoc]; exact HP.out
      clear HP
      go_wp2
      refine leaves_cons (f := 171) (args := #[]) (by simp) (by simp [go_sem]) ?_
      refine (putDefR _).mono ?_
      rintro e u' w'' ⟨rfl, rfl, rfl⟩
      exact ⟨_, results_none rfl _ _ _, rfl, HQ.out⟩
end Go.Proofs.YtldcbabgommghaaGreatDoor

/- What put of package txn lays of a Multi. -/
namespace Go.Proofs.YtldcbabgommghaaGreatDoor
open Go.RowKit
set_option maxRecDepth 8000

set_option maxHeartbeats 4000000 in
theorem put_ou6 (f : RqF) (dv av wv ov : Value) (n : Nat) (oc : Fin n → List Value) (ops : Fin n → Rq) (B g : Nat) (v : Value) (xs : List Int) (w : World) (hk : f.kind = 6) (hl : Lies4 w B f dv av wv) (ho : SeesR w ov 11 (List.ofFn oc)) (fo : ∀ k, liveB ov = some k → k < B) (hs : ∀ i, RqL w (· < B) (oc i) (ops i)) (hok : ∀ i, (ops i).inOk = true) (hn8 : n ≤ 8) (h : IsW w g v xs) (hx : xs.length ≤ 10000000000) (hn : Nam w) (hB : 1 < B) (hg : B ≤ g) (hv : ∀ j, v.ownBlock = some j → B ≤ j) :
    Calls Tryz.prog 139 #[lay 8 0, .pointer (some ⟨g, 0, none⟩), .agg (rqCells f dv av wv ov).toArray] w fun e w' => e = .returned (.tuple #[]) ∧ Puts w g v (xs ++ encP false false false false false true false true f (be4 n ++ opsB ops n)) w' := by
  have m0 : bits .and .u16 832 1 = 0 := by decide
  have m1 : bits .and .u16 832 2 = 0 := by decide
  have m2 : bits .and .u16 832 4 = 0 := by decide
  have m3 : bits .and .u16 832 8 = 0 := by decide
  have m4 : bits .and .u16 832 16 = 0 := by decide
  have m5 : bits .and .u16 832 32 = 0 := by decide
  have m6 : bits .and .u16 832 64 = 64 := by decide
  have m7 : bits .and .u16 832 128 = 0 := by decide
  have m8 : bits .and .u16 832 256 = 256 := by decide
  have m9 : bits .and .u16 832 512 = 512 := by decide
  have hnm : nms 8 0 6 = 832 := by decide
  have HBD : Hid _ := bdOk_inv hl.bd
  have HLL : Hid (Lies4 w B f dv av wv) := hl
  have HLT : Hid (g < w.heap.size ∧ ∀ k, v.ownBlock = some k → k < w.heap.size) := h.lt
  obtain ⟨oa, occ, eo⟩ := seesR_shape ho
  rw [List.length_ofFn] at eo
  subst eo
  have HOP : Hid (SeesR w (.slice oa n occ) 11 (List.ofFn oc) ∧ (∀ k, liveB (Value.slice oa n occ) = some k → k < B) ∧ (∀ i, RqL w (· < B) (oc i) (ops i)) ∧ (∀ i, (ops i).inOk = true)) := ⟨ho, fo, hs, hok⟩
  clear ho fo hs hok
  obtain ⟨kind, path, data, acl, ver, eph, seq, ses, tmo, who⟩ := f
  simp only at hk
  subst hk
  obtain ⟨da, dc, rfl, _⟩ := id hl.hd
  obtain ⟨aa, ac, ea, _⟩ := id hl.ha
  obtain ⟨wa, wc, ew, _⟩ := id hl.hw
  rw [List.length_map] at ea ew
  simp only at ea ew
  subst ea ew
  simp only [rqCells]
  obtain ⟨V, eV⟩ : ∃ V, V = ((w.alloc (.cells #[.int .i8 8, .int .u16 0] 153)).alloc (.cells #[.int .i8 6, .string path, .slice da data.length dc, .slice aa acl.length ac, .int .i32 ver, .bool eph, .bool seq, .int .i64 ses, .int .i32 tmo, .slice wa who.length wc, .slice oa n occ] 35)) := ⟨_, rfl⟩
  have HV : Hid (IsW V g v xs ∧ Nam V ∧ (∀ zs W, Puts V g v zs W → Puts w g v zs W)) := by
    subst eV
    exact ⟨(h.alloc _).alloc _, hn.below (two_alloc w _ _) hn.lt, fun zs W hp => hp.of_alloc.of_alloc⟩
  have HC : Hid (∀ zs W, Puts V g v zs W → Nam W ∧ (∃ v1, IsW W g v1 zs ∧ NewRow V v v1 ∧ Kept V W (fun k => k = g ∨ v.ownBlock = some k) ∧ (∀ j, v1.ownBlock = some j → B ≤ j)) ∧ Lies4 W B ⟨6, path, data, acl, ver, eph, seq, ses, tmo, who⟩ (.slice da data.length dc) (.slice aa acl.length ac) (.slice wa who.length wc) ∧ (B ≤ W.heap.size ∧ SeesR W (.slice oa n occ) 11 (List.ofFn oc) ∧ ∀ i, RqL W (· < B) (oc i) (ops i)) ∧ W.cell? ⟨w.heap.size, 0, none⟩ = some (.int .i8 8) ∧ W.cell? ⟨w.heap.size, 1, none⟩ = some (.int .u16 0) ∧ W.cell? ⟨w.heap.size + 1, 0, none⟩ = some (.int .i8 6) ∧ W.cell? ⟨w.heap.size + 1, 1, none⟩ = some (.string path) ∧ W.cell? ⟨w.heap.size + 1, 2, none⟩ = some (.slice da data.length dc) ∧ W.cell? ⟨w.heap.size + 1, 3, none⟩ = some (.slice aa acl.length ac) ∧ W.cell? ⟨w.heap.size + 1, 4, none⟩ = some (.int .i32 ver) ∧ W.cell? ⟨w.heap.size + 1, 5, none⟩ = some (.bool eph) ∧ W.cell? ⟨w.heap.size + 1, 6, none⟩ = some (.bool seq) ∧ W.cell? ⟨w.heap.size + 1, 7, none⟩ = some (.int .i64 ses) ∧ W.cell? ⟨w.heap.size + 1, 8, none⟩ = some (.int .i32 tmo) ∧ W.cell? ⟨w.heap.size + 1, 9, none⟩ = some (.slice wa who.length wc) ∧ W.cell? ⟨w.heap.size + 1, 10, none⟩ = some (.slice oa n occ)) := by
    intro zs W hp
    have hlt := HLT.out
    have hVs : w.heap.size ≤ V.heap.size := by subst eV; simp; omega
    have hkV : Kept w V (fun _ => False) := by subst eV; exact ((Kept.refl w (fun _ => False)).alloc _).alloc _
    obtain ⟨v1, p1, p2, p3⟩ := id hp
    refine ⟨hp.nam HV.out.2.1 (by omega) (fun j hj => by have := hv j hj; omega), ⟨v1, p1, p2, p3, fun j hj => ?_⟩, ((HLL.out.kept hkV (fun k e => e.elim)).kept p3 (fun k e => ?_)), ⟨by have := p3.size; omega, (HOP.out.1.keptL hkV (fun k hk' e => e.elim)).keptL p3 (fun k hk' e => ?_), fun i => RqL.kept p3 (F' := (· < B)) (fun q hq => ⟨fun e => ?_, hq⟩) (RqL.kept hkV (F' := (· < B)) (fun q hq => ⟨fun e => e.elim, hq⟩) (HOP.out.2.2.1 i))⟩, ?_, ?_, ?_, ?_, ?_, ?_, ?_, ?_, ?_, ?_, ?_, ?_, ?_⟩
    · rcases p2 with e | ⟨q, e, hq⟩
      · exact hv j (by rw [← e]; exact hj)
      · rw [hj] at e; simp at e; omega
    · rcases e with e | e
      · omega
      · exact hv k e
    · have := HOP.out.2.1 k hk'
      rcases e with e | e
      · omega
      · have := hv k e; omega
    · have hq' : q < B := hq
      rcases e with e | e
      · omega
      · have := hv q e; omega
    iterate 2 (refine hp.cell (p := ⟨w.heap.size, _, none⟩) ?_ (by show w.heap.size ≠ g; omega) (fun e => by have h1 := hlt.2 _ e; have : w.heap.size < w.heap.size := h1; omega); subst eV; rw [World.cell?_alloc_lt _ _ _ (by simp), cell_of_row _ _ _ _ _ _ (heap_alloc_new _ _)]; rfl)
    all_goals (refine hp.cell (p := ⟨w.heap.size + 1, _, none⟩) ?_ (by show w.heap.size + 1 ≠ g; omega) (fun e => by have h1 := hlt.2 _ e; have : w.heap.size + 1 < w.heap.size := h1; omega); subst eV; rw [cell_of_row _ _ _ _ _ _ (by have := heap_alloc_new (w.alloc (.cells #[.int .i8 8, .int .u16 0] 153)) (.cells #[.int .i8 6, .string path, .slice da data.length dc, .slice aa acl.length ac, .int .i32 ver, .bool eph, .bool seq, .int .i64 ses, .int .i32 tmo, .slice wa who.length wc, .slice oa n occ] 35 (0, 0)); simpa using this)]; rfl)
  have HE : Hid _ := eV
  have HBG : Hid (1 < B ∧ B ≤ g) := ⟨hB, hg⟩
  clear h hn hB hv eV hl
  go_enter Tryz.func139, Tryz.ntmps139
  go_wp2_with fail
  rw [← HE.out]
  refine (wInt8_any g v xs 6 _ HV.out.1 (by omega)).mono ?_
  rintro e w1 ⟨rfl, hp⟩
  have HP1 : Hid (Puts V g v (xs ++ [6 % 256]) w1) := hp
  clear hp HE
  obtain ⟨nm, _, _, _, l0, l1, r0, r1, r2, r3, r4, r5, r6, r7, r8, r9, r10⟩ := HC.out _ _ HP1.out
  go_wp2_with fail
  refine (names_any 8 0 6 _ nm (by omega)).mono ?_
  rintro e w2 ⟨rfl, b2⟩
  rw [hnm]
  have HP2 : Hid (Puts V g v (xs ++ [6 % 256]) w2) := HP1.out.later b2
  clear b2 HP1 nm l0 l1 r0 r1 r2 r3 r4 r5 r6 r7 r8 r9 r10
  obtain ⟨_, ⟨v2, iw2, nr2, kp2, vb2⟩, li2, bs2, l0, l1, r0, r1, r2, r3, r4, r5, r6, r7, r8, r9, r10⟩ := HC.out _ _ HP2.out
  have HW2 : Hid _ := And.intro iw2 (And.intro nr2 (And.intro kp2 (And.intro vb2 (And.intro li2 bs2))))
  clear iw2 nr2 kp2 vb2 li2 bs2
  go_wp2_with fail
  refine (wInt64_any g v2 _ ses _ HW2.out.1 (by have := HBD.out; have hac := acB_len acl (fun y hy => by have := HBD.out.2.2.2.1 y hy; omega); (repeat (first | rw [List.length_append] | rw [be4_length] | rw [be8_length] | rw [txt_len] | rw [List.length_singleton])); omega)).mono ?_
  rintro e w3 ⟨rfl, hp⟩
  have HP3 : Hid (Puts V g v _ w3) := Puts.next HW2.out.2.1 HW2.out.2.2.1 hp
  clear hp HW2 l0 l1 r0 r1 r2 r3 r4 r5 r6 r7 r8 r9 r10
  obtain ⟨_, ⟨v3, iw2, nr2, kp2, vb2⟩, li2, bs2, l0, l1, r0, r1, r2, r3, r4, r5, r6, r7, r8, r9, r10⟩ := HC.out _ _ HP3.out
  have HW3 : Hid _ := And.intro iw2 (And.intro nr2 (And.intro kp2 (And.intro vb2 (And.intro li2 bs2))))
  clear iw2 nr2 kp2 vb2 li2 bs2
  go_wp2_with fail
  refine (putListI_any 8 0 g v3 (.slice wa who.length wc) _ who _ HW3.out.1 HW3.out.2.2.2.2.1.hw (by have := HBD.out; omega) (fun y hy => by have := HBD.out.2.2.2.2.2.2.2.2 y hy; omega) (by have := HBD.out; have hac := acB_len acl (fun y hy => by have := HBD.out.2.2.2.1 y hy; omega); (repeat (first | rw [List.length_append] | rw [be4_length] | rw [be8_length] | rw [txt_len] | rw [List.length_singleton])); omega) (fun q hq => ⟨by have := HLL.out.fw q hq; omega, fun e => by have := HLL.out.fw q hq; have := HW3.out.2.2.2.1 q e; omega, by have := HLL.out.fw q hq; have := HW3.out.2.2.2.2.2.1; omega⟩)).mono ?_
  rintro e w4 ⟨rfl, hp⟩
  have HP4 : Hid (Puts V g v _ w4) := Puts.next HW3.out.2.1 HW3.out.2.2.1 hp
  clear hp HW3 l0 l1 r0 r1 r2 r3 r4 r5 r6 r7 r8 r9 r10
  obtain ⟨_, ⟨v4, iw2, nr2, kp2, vb2⟩, li2, bs2, l0, l1, r0, r1, r2, r3, r4, r5, r6, r7, r8, r9, r10⟩ := HC.out _ _ HP4.out
  have HW4 : Hid _ := And.intro iw2 (And.intro nr2 (And.intro kp2 (And.intro vb2 (And.intro li2 bs2))))
  clear iw2 nr2 kp2 vb2 li2 bs2
  have hd4 : Puts V g v _ w4.drew := HP4.out.later (below_drewN (Below.refl _ _) 1)
  have HD4 : Hid (Puts V g v _ w4.drew) := hd4
  have k0 : w4.drew.cell? ⟨w.heap.size + 1, 10, none⟩ = some (.slice oa n occ) := by
    obtain ⟨_, _, _, _, _, _, _, _, _, _, _, _, _, _, _, _, q10⟩ := HC.out _ _ hd4
    exact q10
  clear hd4
  go_wp2_with fail
  go_region_held (fun w' => w'.cell? ⟨w.heap.size + 1, 10, none⟩ = some (.slice oa n occ)) (first | exact k0 | exact k1 | exact k2)
    (first
    | (go_at_call 153; refine (within_any _).mono ?_; rintro e w5 ⟨rfl, b5⟩; have HP5 : Hid (Puts V g v _ w5) := HD4.out.later b5; have k1 : w5.cell? ⟨w.heap.size + 1, 10, none⟩ = some (.slice oa n occ) := cell_later k0 b5 (Nat.le_refl _); clear b5 k0 HD4)
    | (go_at_call 152; obtain ⟨nm5, ⟨v5, iw5, nr5, kp5, vb5⟩, _, ⟨_, so5, ro5⟩, _⟩ := HC.out _ _ HP5.out; refine (putListR_any B g v5 _ _ n oc ops _ iw5 so5 ro5 HOP.out.2.2.2 hn8 ?_ nm5 HBG.out.1 HBG.out.2 vb5 HOP.out.2.1).mono ?_; (have := HBD.out; have hid := idsB_len who (fun y hy => by have := HBD.out.2.2.2.2.2.2.2.2 y hy; omega); (repeat (first | rw [List.length_append] | rw [be4_length] | rw [be8_length] | rw [List.length_singleton])); omega); rintro e w6 ⟨rfl, hp⟩; have HP6 : Hid (Puts V g v _ w6) := Puts.next nr5 kp5 hp; have k2 : w6.cell? ⟨w.heap.size + 1, 10, none⟩ = some (.slice oa n occ) := (by obtain ⟨_, _, _, _, _, _, _, _, _, _, _, _, _, _, _, _, q10⟩ := HC.out _ _ HP6.out; exact q10); clear hp iw5 nr5 kp5 vb5 so5 ro5 nm5 HP5 k1))
  clear k2 l0 l1 r0 r1 r2 r3 r4 r5 r6 r7 r8 r9 r10
  go_wp2_with fail
  go_end0
  refine ⟨rfl, HV.out.2.2 _ _ ?_⟩
  have hq := HP6.out
  simpa [encP] using hq
end Go.Proofs.YtldcbabgommghaaGreatDoor
