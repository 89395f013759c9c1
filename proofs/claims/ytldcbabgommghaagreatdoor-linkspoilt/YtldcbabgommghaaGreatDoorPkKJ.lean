/- What txn.Write answers, for every transaction in blocks below it. -/
import Derived.Test.YtldcbabgommghaaGreatDoorPutMJ
import Derived.Test.YtldcbabgommghaaGreatDoorPkAJ
import Derived.Test.YtldcbabgommghaaGreatDoorWkReadJ
import Derived.Test.YtldcbabgommghaaGreatDoorRqLJ
namespace Go.Proofs.YtldcbabgommghaaGreatDoor
open Go.RowKit
set_option maxRecDepth 8000

/-- The bytes of a transaction's request. -/
def encOut : Rq → List Int
  | .mk f n ops =>
    if f.kind = 1 then encP true true true false true true false true f []
    else if f.kind = 3 then encP true true false true false true false true f []
    else if f.kind = 4 then encP true false true true false true false true f []
    else if f.kind = 6 then encP false false false false false true false true f (be4 n ++ opsB ops n)
    else if f.kind = 7 then encP false false false false false false true false f []
    else if f.kind = 8 then encP false false false false false true false false f []
    else encP true false false true false true false true f []

theorem encOut_mk (f : RqF) (n : Nat) (ops : Fin n → Rq) : encOut (.mk f n ops) =
    if f.kind = 1 then encP true true true false true true false true f []
    else if f.kind = 3 then encP true true false true false true false true f []
    else if f.kind = 4 then encP true false true true false true false true f []
    else if f.kind = 6 then encP false false false false false true false true f (be4 n ++ opsB ops n)
    else if f.kind = 7 then encP false false false false false false true false f []
    else if f.kind = 8 then encP false false false false false true false false f []
    else encP true false false true false true false true f [] := rfl

theorem mayP_inv {f : RqF} {n : Nat} {ops : Fin n → Rq} (h : mayP 8 0 (Rq.mk f n ops) = true) : 1 ≤ f.kind ∧ f.kind ≤ 8 ∧ bdOk f = true ∧ n ≤ 8 ∧ ∀ i, (ops i).inOk = true := by
  simp only [mayP, flatOk, Bool.and_eq_true, decide_eq_true_eq] at h
  have h1 : nms 8 0 f.kind ≠ 0 := by simpa using h.1.1.1
  refine ⟨?_, ?_, h.2.1, by have := h.2.2.1; omega, fun i => ?_⟩
  · by_cases hk : f.kind < 1
    · exact absurd (by unfold nms; rw [if_pos (.inl hk)]) h1
    · omega
  · by_cases hk : 8 < f.kind
    · exact absurd (by unfold nms; rw [if_pos (.inr hk)]) h1
    · omega
  · have := List.all_eq_true.1 h.2.2.2 (ops i).inOk (by rw [List.mem_ofFn]; exact ⟨i, rfl⟩)
    simpa using this

theorem putOut_any (r : Rq) (cs : List Value) (B g : Nat) (v : Value) (xs : List Int) (w : World) (hr : RqL w (· < B) cs r) (hok : mayP 8 0 r = true) (h : IsW w g v xs) (hx : xs.length ≤ 10000000000) (hn : Nam w) (hB : 1 < B) (hg : B ≤ g) (hv : ∀ j, v.ownBlock = some j → B ≤ j) :
    Calls Tryz.prog 139 #[lay 8 0, .pointer (some ⟨g, 0, none⟩), .agg cs.toArray] w fun e w' => e = .returned (.tuple #[]) ∧ Puts w g v (xs ++ encOut r) w' := by
  cases hr with
  | mk f n ops dv av wv ov oc hd ha hw ho fd fa fw fo hs =>
    obtain ⟨h1, h2, h3, h4, h5⟩ := mayP_inv hok
    have hl : Lies4 w B f dv av wv := ⟨h3, hd, ha, hw, fd, fa, fw⟩
    have hov := seesR_form ho
    have hx' : xs.length ≤ 1000000000000 := by omega
    rw [encOut_mk]
    by_cases k1 : f.kind = 1
    · rw [if_pos k1]; exact put_ou1 f dv av wv ov hov B g v xs w k1 hl h hx' hn hB hg hv
    rw [if_neg k1]
    by_cases k3 : f.kind = 3
    · rw [if_pos k3]; exact put_ou3 f dv av wv ov hov B g v xs w k3 hl h hx' hn hB hg hv
    rw [if_neg k3]
    by_cases k4 : f.kind = 4
    · rw [if_pos k4]; exact put_ou4 f dv av wv ov hov B g v xs w k4 hl h hx' hn hB hg hv
    rw [if_neg k4]
    by_cases k6 : f.kind = 6
    · rw [if_pos k6]; exact put_ou6 f dv av wv ov n oc ops B g v xs w k6 hl ho fo hs h5 h4 h hx hn hB hg hv
    rw [if_neg k6]
    by_cases k7 : f.kind = 7
    · rw [if_pos k7]; exact put_ou7 f dv av wv ov hov B g v xs w k7 hl h hx' hn hB hg hv
    rw [if_neg k7]
    by_cases k8 : f.kind = 8
    · rw [if_pos k8]; exact put_ou8 f dv av wv ov hov B g v xs w k8 hl h hx' hn hB hg hv
    rw [if_neg k8]
    by_cases k2 : f.kind = 2
    · exact put_ou2 f dv av wv ov hov B g v xs w k2 hl h hx' hn hB hg hv
    · exact put_ou5 f dv av wv ov hov B g v xs w (by omega) hl h hx' hn hB hg hv

/-- The bytes of a transaction. -/
def txB (t : TxD) : List Int := headB t.ep t.n t.srv t.boot t.num ++ encOut t.rq

theorem encOut_len (r : Rq) (hok : mayP 8 0 r = true) : (encOut r).length ≤ 500000000000 := by
  cases r with
  | mk f n ops =>
    obtain ⟨h1, h2, h3, h4, h5⟩ := mayP_inv hok
    have hb := bdOk_inv h3
    have ha := acB_len f.acl (fun y hy => by have := hb.2.2.2.1 y hy; omega)
    have hi := idsB_len f.who (fun y hy => by have := hb.2.2.2.2.2.2.2.2 y hy; omega)
    have ht := txtB_len f.path
    have ho := opsB_len ops h5 n (Nat.le_refl _)
    rw [encOut_mk]
    split
    · simp [encP, be4, be8]; omega
    split
    · simp [encP, be4, be8]; omega
    split
    · simp [encP, be4, be8]; omega
    split
    · simp [encP, be4, be8]; omega
    split
    · simp [encP, be4]
    split
    · simp [encP, be4, be8]
    · simp [encP, be4, be8]; omega
end Go.Proofs.YtldcbabgommghaaGreatDoor

/- What txn.Write answers, for every transaction that lies in memory. -/
namespace Go.Proofs.YtldcbabgommghaaGreatDoor
open Go.RowKit
set_option maxRecDepth 8000

theorem write_good (t : TxD) (rc : List Value) (w : World) (hr : RqL w (· < w.heap.size) rc t.rq) (hg : t.good) (hn : Nam w) (hok : txOk t = true) :
    Calls Tryz.prog 130 #[.agg (txHead t ++ rc).toArray] w fun r w' => ∃ v, r = .returned (.tuple #[v, .int .i64 0]) ∧ Owns w' w.heap.size v (txB t) ∧ Below w.heap.size w w' := by
  have hm : mayP 8 0 t.rq = true := by
    simp only [txOk, Bool.and_eq_true] at hok
    exact hok.2
  have hck : ∀ W : World, Below w.heap.size w W → Calls Tryz.prog 128 #[.agg (txHead t ++ rc).toArray] W fun r W' => r = .returned (.int .i64 0) ∧ Below W.heap.size W W' := fun W hW => by
    have := check_any (txHead t ++ rc) t W ⟨rc, rfl, hr.sees.later hW (Nat.le_refl _)⟩ hg (hn.below hW hn.lt)
    rw [hok] at this
    exact this
  have hpt : ∀ (W : World) (g : Nat) (v : Value) (xs : List Int), Below w.heap.size w W → IsW W g v xs → xs.length ≤ 1000 → w.heap.size ≤ g → (∀ j, v.ownBlock = some j → w.heap.size ≤ j) → Calls Tryz.prog 139 #[lay 8 0, .pointer (some ⟨g, 0, none⟩), .agg rc.toArray] W fun r W' => r = .returned (.tuple #[]) ∧ Puts W g v (xs ++ encOut t.rq) W' := fun W g v xs hW h hx hg' hv =>
    putOut_any t.rq rc w.heap.size g v xs W (RqL.kept (Below.kept hW) (fun q hq => ⟨fun e => by have hq' : q < w.heap.size := hq; omega, hq⟩) hr) hm h (by omega) (hn.below hW hn.lt) hn.lt hg' hv
  obtain ⟨q0, q1, d0, d1, d2, a0, a1, a2, q4, q5, q6, q7, q8, e0, e1, e2, o0, o1, o2, rfl⟩ := rq_forms hr.sees
  exact write_ok t.ep t.n t.srv t.boot t.num q0 q1 d0 a0 e0 o0 d1 d2 a1 a2 e1 e2 o1 o2 q4 q5 q6 q7 q8 (encOut t.rq) w hg.e0 hg.e1 hg.n0 hg.n1 hg.b0 hg.b1 (by have := encOut_len t.rq hm; omega) hck hpt

end Go.Proofs.YtldcbabgommghaaGreatDoor

/- The bytes of a transaction that may be: at most 4096, each a byte. No Go function is walked here. -/
namespace Go.Proofs.YtldcbabgommghaaGreatDoor
open Go.RowKit
set_option maxRecDepth 8000

theorem acB_t (l : List EnD) (h : ∀ x ∈ l, x.id.scheme.size ≤ 24 ∧ x.id.name.size ≤ 24) : (acB l).length ≤ 57 * l.length := by
  induction l with
  | nil => simp [acB]
  | cons x l ih =>
    have e : acB (x :: l) = enB x ++ acB l := by simp [acB]
    have h1 := h x (by simp)
    have h2 := ih (fun y hy => h y (by simp [hy]))
    rw [e, List.length_append, enB, List.length_append, idB, List.length_append, txtB_len, txtB_len]
    simp only [List.length_cons, List.length_nil]
    omega
theorem idsB_t (l : List IdD) (h : ∀ x ∈ l, x.scheme.size ≤ 24 ∧ x.name.size ≤ 24) : (idsB l).length ≤ 56 * l.length := by
  induction l with
  | nil => simp [idsB]
  | cons x l ih =>
    have e : idsB (x :: l) = idB x ++ idsB l := by simp [idsB]
    have h1 := h x (by simp)
    have h2 := ih (fun y hy => h y (by simp [hy]))
    rw [e, List.length_append, idB, List.length_append, txtB_len, txtB_len, List.length_cons]
    omega

theorem encIn_t (r : Rq) (h : r.inOk = true) : (encIn r).length ≤ 403 := by
  cases r with
  | mk f n ops =>
    obtain ⟨h1, h5, hbd⟩ := inOk_inv h
    have hb := bdOk_inv hbd
    have ha := acB_t f.acl hb.2.2.2.1
    have ht := txtB_len f.path
    rw [encIn_mk]
    split
    · simp [encP, be4]; omega
    split
    · simp [encP, be4]; omega
    split
    · simp [encP, be4]; omega
    · simp [encP, be4]; omega

theorem opsB_t {n : Nat} (ops : Fin n → Rq) (hok : ∀ i, (ops i).inOk = true) : ∀ k, k ≤ n → (opsB ops k).length ≤ 403 * k
  | 0, _ => by simp [opsB]
  | k + 1, h => by
    have h1 := opsB_t ops hok k (by omega)
    have h2 := encIn_t (ops ⟨k, by omega⟩) (hok _)
    rw [opsB_next ops k (by omega), List.length_append]
    omega

theorem encOut_t (r : Rq) (hok : mayP 8 0 r = true) : (encOut r).length ≤ 3500 := by
  cases r with
  | mk f n ops =>
    obtain ⟨h1, h2, h3, h4, h5⟩ := mayP_inv hok
    have hb := bdOk_inv h3
    have ha := acB_t f.acl hb.2.2.2.1
    have hi := idsB_t f.who hb.2.2.2.2.2.2.2.2
    have ht := txtB_len f.path
    have ho := opsB_t ops h5 n (Nat.le_refl _)
    rw [encOut_mk]
    split
    · simp [encP, be4, be8]; omega
    split
    · simp [encP, be4, be8]; omega
    split
    · simp [encP, be4, be8]; omega
    split
    · simp [encP, be4, be8]; omega
    split
    · simp [encP, be4]
    split
    · simp [encP, be4, be8]
    · simp [encP, be4, be8]; omega

theorem txB_t (t : TxD) (hok : txOk t = true) : (txB t).length ≤ 4096 := by
  have hm : mayP 8 0 t.rq = true := by
    simp only [txOk, Bool.and_eq_true] at hok
    exact hok.2
  have := encOut_t t.rq hm
  simp [txB, headB, be4, be8]
  omega

theorem byts4 (n : Int) (h0 : 0 ≤ n) (h1 : n < 4294967296) : Byts (be4 n) := by
  intro x hx
  simp only [be4, List.mem_cons, List.not_mem_nil, or_false] at hx
  rcases hx with rfl | rfl | rfl | rfl <;> omega
theorem byts8 (n : Int) (h0 : 0 ≤ n) (h1 : n < 18446744073709551616) : Byts (be8 n) := by
  unfold be8
  exact (byts4 _ (by omega) (by omega)).append (byts4 _ (by omega) (by omega))
theorem byts_txt (s : ByteArray) : Byts (txt s) := by
  intro x hx
  unfold txt at hx
  obtain ⟨b, _, rfl⟩ := List.mem_map.1 hx
  have := b.toNat_lt
  omega
theorem byts_txtB (s : ByteArray) (h : s.size ≤ 2147483647) : Byts (txtB s) := by
  have := txt_len s
  exact (byts4 _ (by omega) (by omega)).append (byts_txt s)
theorem byts_one (x : Int) (h0 : 0 ≤ x) (h1 : x ≤ 255) : Byts [x] := fun y hy => by
  obtain rfl : y = x := by simpa using hy
  exact ⟨h0, h1⟩
theorem byts_idsB (l : List IdD) (h : ∀ x ∈ l, x.scheme.size ≤ 24 ∧ x.name.size ≤ 24) : Byts (idsB l) := by
  intro y hy
  unfold idsB at hy
  obtain ⟨x, hx, hxy⟩ := List.mem_flatMap.1 hy
  have h1 := h x hx
  exact ((byts_txtB x.scheme (by omega)).append (byts_txtB x.name (by omega))) y hxy
theorem byts_acB (l : List EnD) (h : ∀ x ∈ l, x.id.scheme.size ≤ 24 ∧ x.id.name.size ≤ 24) : Byts (acB l) := by
  intro y hy
  unfold acB at hy
  obtain ⟨x, hx, hxy⟩ := List.mem_flatMap.1 hy
  have h1 := h x hx
  unfold enB at hxy
  rcases List.mem_append.1 hxy with hxy | hxy
  · obtain rfl : y = x.perms % 256 := by simpa using hxy
    omega
  · exact ((byts_txtB x.id.scheme (by omega)).append (byts_txtB x.id.name (by omega))) y hxy
theorem byts_if {c : Bool} {a : List Int} (h : Byts a) : Byts (if c then a else []) := by
  cases c
  · intro x hx; simp at hx
  · exact h

theorem byts_encP (p d a v e z t o : Bool) (f : RqF) (more : List Int) (hbd : bdOk f = true) (hg : f.good) (hm : Byts more) : Byts (encP p d a v e z t o f more) := by
  have hb := bdOk_inv hbd
  have hk := hg
  unfold encP
  refine Byts.append (Byts.append (Byts.append (Byts.append (Byts.append (Byts.append (Byts.append (Byts.append (Byts.append ?_ ?_) ?_) ?_) ?_) ?_) ?_) ?_) ?_) hm
  · exact byts_one _ (by omega) (by omega)
  · exact byts_if (byts_txtB _ (by omega))
  · exact byts_if ((byts4 _ (by omega) (by omega)).append hg.byts)
  · exact byts_if ((byts4 _ (by omega) (by omega)).append (byts_acB _ hb.2.2.2.1))
  · exact byts_if (byts4 _ (by have := hg.v0; unfold up32; omega) (by have := hg.v1; unfold up32; omega))
  · exact byts_if ((byts_one _ (by unfold b2i; split <;> omega) (by unfold b2i; split <;> omega)).append (byts_one _ (by unfold b2i; split <;> omega) (by unfold b2i; split <;> omega)))
  · exact byts_if (byts8 _ (by have := hg.s0; unfold up64; omega) (by have := hg.s1; unfold up64; omega))
  · exact byts_if (byts4 _ (by have := hg.t0; unfold up32; omega) (by have := hg.t1; unfold up32; omega))
  · exact byts_if ((byts4 _ (by omega) (by omega)).append (byts_idsB _ hb.2.2.2.2.2.2.2.2))

theorem byts_encIn (r : Rq) (h : r.inOk = true) (hg : r.good) : Byts (encIn r) := by
  cases r with
  | mk f n ops =>
    obtain ⟨h1, h5, hbd⟩ := inOk_inv h
    have hn : Byts [] := fun x hx => by simp at hx
    rw [encIn_mk]
    repeat' split
    all_goals exact byts_encP _ _ _ _ _ _ _ _ f [] hbd hg.1 hn

theorem byts_opsB {n : Nat} (ops : Fin n → Rq) (hok : ∀ i, (ops i).inOk = true) (hg : ∀ i, (ops i).good) : ∀ k, k ≤ n → Byts (opsB ops k)
  | 0, _ => fun x hx => by simp [opsB] at hx
  | k + 1, h => by
    rw [opsB_next ops k (by omega)]
    exact (byts_opsB ops hok hg k (by omega)).append (byts_encIn _ (hok _) (hg _))

theorem byts_encOut (r : Rq) (hok : mayP 8 0 r = true) (hg : r.good) : Byts (encOut r) := by
  cases r with
  | mk f n ops =>
    obtain ⟨h1, h2, h3, h4, h5⟩ := mayP_inv hok
    have hn : Byts [] := fun x hx => by simp at hx
    have ho : Byts (be4 (n : Int) ++ opsB ops n) := (byts4 _ (by omega) (by omega)).append (byts_opsB ops h5 hg.2.2 n (Nat.le_refl _))
    rw [encOut_mk]
    repeat' split
    all_goals first | exact byts_encP _ _ _ _ _ _ _ _ f [] h3 hg.1 hn | exact byts_encP _ _ _ _ _ _ _ _ f _ h3 hg.1 ho

theorem byts_txB (t : TxD) (hok : txOk t = true) (hg : t.good) : Byts (txB t) := by
  have hm : mayP 8 0 t.rq = true := by
    simp only [txOk, Bool.and_eq_true] at hok
    exact hok.2
  unfold txB headB
  refine Byts.append (Byts.append (Byts.append (Byts.append (Byts.append ?_ ?_) ?_) ?_) ?_) (byts_encOut t.rq hm hg.rq)
  · exact byts4 _ hg.e0 (by have := hg.e1; omega)
  · exact byts4 _ hg.n0 (by have := hg.n1; omega)
  · exact byts_one _ (by omega) (by omega)
  · exact byts4 _ hg.b0 (by have := hg.b1; omega)
  · exact byts8 _ (by have := hg.m0; unfold up64; omega) (by have := hg.m1; unfold up64; omega)
end Go.Proofs.YtldcbabgommghaaGreatDoor

/- What the rows of package packet lay: the twelve put functions. -/
namespace Go.Proofs.YtldcbabgommghaaGreatDoor
open Go.RowKit
set_option maxRecDepth 8000

/-- The bytes of a field. -/
def fdB (j : Nat) (p : PkD) : List Int := match j with
  | 0 => be4 p.cb ++ be4 p.ct | 1 => be4 p.lb ++ be4 p.lt | 2 => be8 (up64 p.place) | 3 => be4 p.ep | 4 => be4 p.cur | 5 => be4 p.ze ++ be4 p.zn | 6 => be4 p.pe ++ be4 p.pn
  | 7 => [b2i p.cnt] | 8 => [b2i p.fin] | 9 => be4 (txB p.tx).length ++ txB p.tx | 10 => be4 p.bys.length ++ p.bys | _ => be8 (up64 p.ses)

set_option maxHeartbeats 400000 in
theorem putPair_any (g : Nat) (v : Value) (xs : List Int) (a b : Int) (w : World) (h : IsW w g v xs) (a0 : 0 ≤ a) (a1 : a ≤ 4294967295) (b0 : 0 ≤ b) (b1 : b ≤ 4294967295) (hb : xs.length ≤ 100000) :
    Calls Tryz.prog 77 #[.pointer (some ⟨g, 0, none⟩), .int .u32 a, .int .u32 b] w fun e w' => e = .returned (.tuple #[]) ∧ Puts w g v (xs ++ (be4 a ++ be4 b)) w' := by
  have HV : Hid (IsW w g v xs) := h
  clear h
  go_enter Tryz.func77, Tryz.ntmps77
  go_wp2_with fail
  refine (wUint32_any g v xs a _ HV.out a0 (by omega) (by omega)).mono ?_
  rintro e w1 ⟨rfl, hp⟩
  obtain ⟨v1, hW, hN, hK⟩ := hp
  have HW : Hid (IsW w1 g v1 (xs ++ be4 a) ∧ NewRow w v v1 ∧ Kept w w1 (fun k => k = g ∨ v.ownBlock = some k)) := ⟨hW, hN, hK⟩
  clear hW hN hK
  go_wp2_with fail
  refine (wUint32_any g v1 _ b _ HW.out.1 b0 (by omega) (by simp [be4]; omega)).mono ?_
  rintro e w2 ⟨rfl, hp2⟩
  have HP : Hid (Puts w g v (xs ++ (be4 a ++ be4 b)) w2) := by
    have := Puts.next HW.out.2.1 HW.out.2.2 hp2
    rw [List.append_assoc] at this
    exact this
  clear hp2 HW
  go_wp2
  go_end0
  exact ⟨rfl, HP.out⟩

section
variable (p : PkD) (tc : List Value) (bv : Value) (g : Nat) (v : Value) (xs : List Int) (w : World)

set_option maxHeartbeats 400000 in
theorem ptConn (h : IsW w g v xs) (hb : xs.length ≤ 100000) (hg : p.good) : Calls Tryz.prog 76 #[.pointer (some ⟨g, 0, none⟩), .agg (pkL p tc bv).toArray] w fun e w' => e = .returned (.tuple #[]) ∧ Puts w g v (xs ++ fdB 0 p) w' := by
  obtain ⟨W, HE, HW⟩ := pk_box p tc bv w
  have HI : Hid (IsW W g v xs) := by rw [HE.out]; exact h.alloc _
  have c1 : W.cell? ⟨w.heap.size, 1, none⟩ = some (.int .u32 p.cb) := pk_at HW.out.2 rfl
  have c2 : W.cell? ⟨w.heap.size, 2, none⟩ = some (.int .u32 p.ct) := pk_at HW.out.2 rfl
  clear h
  go_enter Tryz.func76, Tryz.ntmps76
  go_upto_region 1 with fail
  rw [← HE.out]
  go_wp2_with fail
  refine (putPair_any g v xs _ _ _ HI.out hg.cb0 hg.cb1 hg.ct0 hg.ct1 hb).mono ?_
  rintro _ w1 ⟨rfl, hp⟩
  have HP : Hid (Puts w g v (xs ++ fdB 0 p) w1) := by rw [HE.out] at hp; exact hp.of_alloc
  clear hp HE c1 c2
  go_wp2_with fail
  go_end0
  exact ⟨rfl, HP.out⟩

set_option maxHeartbeats 400000 in
theorem ptLead (h : IsW w g v xs) (hb : xs.length ≤ 100000) (hg : p.good) : Calls Tryz.prog 81 #[.pointer (some ⟨g, 0, none⟩), .agg (pkL p tc bv).toArray] w fun e w' => e = .returned (.tuple #[]) ∧ Puts w g v (xs ++ fdB 1 p) w' := by
  obtain ⟨W, HE, HW⟩ := pk_box p tc bv w
  have HI : Hid (IsW W g v xs) := by rw [HE.out]; exact h.alloc _
  have c3 : W.cell? ⟨w.heap.size, 3, none⟩ = some (.int .u32 p.lb) := pk_at HW.out.2 rfl
  have c4 : W.cell? ⟨w.heap.size, 4, none⟩ = some (.int .u32 p.lt) := pk_at HW.out.2 rfl
  clear h
  go_enter Tryz.func81, Tryz.ntmps81
  go_upto_region 1 with fail
  rw [← HE.out]
  go_wp2_with fail
  refine (putPair_any g v xs _ _ _ HI.out hg.lb0 hg.lb1 hg.lt0 hg.lt1 hb).mono ?_
  rintro _ w1 ⟨rfl, hp⟩
  have HP : Hid (Puts w g v (xs ++ fdB 1 p) w1) := by rw [HE.out] at hp; exact hp.of_alloc
  clear hp HE c3 c4
  go_wp2_with fail
  go_end0
  exact ⟨rfl, HP.out⟩

set_option maxHeartbeats 400000 in
theorem ptPlace (h : IsW w g v xs) (hb : xs.length ≤ 100000) : Calls Tryz.prog 84 #[.pointer (some ⟨g, 0, none⟩), .agg (pkL p tc bv).toArray] w fun e w' => e = .returned (.tuple #[]) ∧ Puts w g v (xs ++ fdB 2 p) w' := by
  obtain ⟨W, HE, HW⟩ := pk_box p tc bv w
  have HI : Hid (IsW W g v xs) := by rw [HE.out]; exact h.alloc _
  have c5 : W.cell? ⟨w.heap.size, 5, none⟩ = some (.int .i64 p.place) := pk_at HW.out.2 rfl
  clear h
  go_enter Tryz.func84, Tryz.ntmps84
  go_upto_region 1 with fail
  rw [← HE.out]
  go_wp2_with fail
  refine (wInt64_any g v xs _ _ HI.out (by omega)).mono ?_
  rintro _ w1 ⟨rfl, hp⟩
  have HP : Hid (Puts w g v (xs ++ fdB 2 p) w1) := by rw [HE.out] at hp; exact hp.of_alloc
  clear hp HE c5
  go_wp2_with fail
  go_end0
  exact ⟨rfl, HP.out⟩

set_option maxHeartbeats 400000 in
theorem ptEpoch (h : IsW w g v xs) (hb : xs.length ≤ 100000) (hg : p.good) : Calls Tryz.prog 89 #[.pointer (some ⟨g, 0, none⟩), .agg (pkL p tc bv).toArray] w fun e w' => e = .returned (.tuple #[]) ∧ Puts w g v (xs ++ fdB 3 p) w' := by
  obtain ⟨W, HE, HW⟩ := pk_box p tc bv w
  have HI : Hid (IsW W g v xs) := by rw [HE.out]; exact h.alloc _
  have c6 : W.cell? ⟨w.heap.size, 6, none⟩ = some (.int .u32 p.ep) := pk_at HW.out.2 rfl
  clear h
  go_enter Tryz.func89, Tryz.ntmps89
  go_upto_region 1 with fail
  rw [← HE.out]
  go_wp2_with fail
  refine (wUint32_any g v xs _ _ HI.out hg.ep0 (by have := hg.ep1; omega) (by omega)).mono ?_
  rintro _ w1 ⟨rfl, hp⟩
  have HP : Hid (Puts w g v (xs ++ fdB 3 p) w1) := by rw [HE.out] at hp; exact hp.of_alloc
  clear hp HE c6
  go_wp2_with fail
  go_end0
  exact ⟨rfl, HP.out⟩

set_option maxHeartbeats 400000 in
theorem ptCur (h : IsW w g v xs) (hb : xs.length ≤ 100000) (hg : p.good) : Calls Tryz.prog 92 #[.pointer (some ⟨g, 0, none⟩), .agg (pkL p tc bv).toArray] w fun e w' => e = .returned (.tuple #[]) ∧ Puts w g v (xs ++ fdB 4 p) w' := by
  obtain ⟨W, HE, HW⟩ := pk_box p tc bv w
  have HI : Hid (IsW W g v xs) := by rw [HE.out]; exact h.alloc _
  have c7 : W.cell? ⟨w.heap.size, 7, none⟩ = some (.int .u32 p.cur) := pk_at HW.out.2 rfl
  clear h
  go_enter Tryz.func92, Tryz.ntmps92
  go_upto_region 1 with fail
  rw [← HE.out]
  go_wp2_with fail
  refine (wUint32_any g v xs _ _ HI.out hg.cu0 (by have := hg.cu1; omega) (by omega)).mono ?_
  rintro _ w1 ⟨rfl, hp⟩
  have HP : Hid (Puts w g v (xs ++ fdB 4 p) w1) := by rw [HE.out] at hp; exact hp.of_alloc
  clear hp HE c7
  go_wp2_with fail
  go_end0
  exact ⟨rfl, HP.out⟩

set_option maxHeartbeats 400000 in
theorem ptZxid (h : IsW w g v xs) (hb : xs.length ≤ 100000) (hg : p.good) : Calls Tryz.prog 95 #[.pointer (some ⟨g, 0, none⟩), .agg (pkL p tc bv).toArray] w fun e w' => e = .returned (.tuple #[]) ∧ Puts w g v (xs ++ fdB 5 p) w' := by
  obtain ⟨W, HE, HW⟩ := pk_box p tc bv w
  have HI : Hid (IsW W g v xs) := by rw [HE.out]; exact h.alloc _
  have c8 : W.cell? ⟨w.heap.size, 8, none⟩ = some (.int .u32 p.ze) := pk_at HW.out.2 rfl
  have c9 : W.cell? ⟨w.heap.size, 9, none⟩ = some (.int .u32 p.zn) := pk_at HW.out.2 rfl
  clear h
  go_enter Tryz.func95, Tryz.ntmps95
  go_upto_region 1 with fail
  rw [← HE.out]
  go_wp2_with fail
  refine (putPair_any g v xs _ _ _ HI.out hg.ze0 hg.ze1 hg.zn0 hg.zn1 hb).mono ?_
  rintro _ w1 ⟨rfl, hp⟩
  have HP : Hid (Puts w g v (xs ++ fdB 5 p) w1) := by rw [HE.out] at hp; exact hp.of_alloc
  clear hp HE c8 c9
  go_wp2_with fail
  go_end0
  exact ⟨rfl, HP.out⟩

set_option maxHeartbeats 400000 in
theorem ptPrev (h : IsW w g v xs) (hb : xs.length ≤ 100000) (hg : p.good) : Calls Tryz.prog 99 #[.pointer (some ⟨g, 0, none⟩), .agg (pkL p tc bv).toArray] w fun e w' => e = .returned (.tuple #[]) ∧ Puts w g v (xs ++ fdB 6 p) w' := by
  obtain ⟨W, HE, HW⟩ := pk_box p tc bv w
  have HI : Hid (IsW W g v xs) := by rw [HE.out]; exact h.alloc _
  have c10 : W.cell? ⟨w.heap.size, 10, none⟩ = some (.int .u32 p.pe) := pk_at HW.out.2 rfl
  have c11 : W.cell? ⟨w.heap.size, 11, none⟩ = some (.int .u32 p.pn) := pk_at HW.out.2 rfl
  clear h
  go_enter Tryz.func99, Tryz.ntmps99
  go_upto_region 1 with fail
  rw [← HE.out]
  go_wp2_with fail
  refine (putPair_any g v xs _ _ _ HI.out hg.pe0 hg.pe1 hg.pn0 hg.pn1 hb).mono ?_
  rintro _ w1 ⟨rfl, hp⟩
  have HP : Hid (Puts w g v (xs ++ fdB 6 p) w1) := by rw [HE.out] at hp; exact hp.of_alloc
  clear hp HE c10 c11
  go_wp2_with fail
  go_end0
  exact ⟨rfl, HP.out⟩

set_option maxHeartbeats 400000 in
theorem ptCnt (h : IsW w g v xs) (hb : xs.length ≤ 100000) : Calls Tryz.prog 102 #[.pointer (some ⟨g, 0, none⟩), .agg (pkL p tc bv).toArray] w fun e w' => e = .returned (.tuple #[]) ∧ Puts w g v (xs ++ fdB 7 p) w' := by
  obtain ⟨W, HE, HW⟩ := pk_box p tc bv w
  have HI : Hid (IsW W g v xs) := by rw [HE.out]; exact h.alloc _
  have c12 : W.cell? ⟨w.heap.size, 12, none⟩ = some (.bool p.cnt) := pk_at HW.out.2 rfl
  clear h
  go_enter Tryz.func102, Tryz.ntmps102
  go_upto_region 1 with fail
  rw [← HE.out]
  go_wp2_with fail
  refine (wBool_any g v xs _ _ HI.out (by omega)).mono ?_
  rintro _ w1 ⟨rfl, hp⟩
  have HP : Hid (Puts w g v (xs ++ fdB 7 p) w1) := by rw [HE.out] at hp; exact hp.of_alloc
  clear hp HE c12
  go_wp2_with fail
  go_end0
  exact ⟨rfl, HP.out⟩

set_option maxHeartbeats 400000 in
theorem ptFin (h : IsW w g v xs) (hb : xs.length ≤ 100000) : Calls Tryz.prog 106 #[.pointer (some ⟨g, 0, none⟩), .agg (pkL p tc bv).toArray] w fun e w' => e = .returned (.tuple #[]) ∧ Puts w g v (xs ++ fdB 8 p) w' := by
  obtain ⟨W, HE, HW⟩ := pk_box p tc bv w
  have HI : Hid (IsW W g v xs) := by rw [HE.out]; exact h.alloc _
  have c13 : W.cell? ⟨w.heap.size, 13, none⟩ = some (.bool p.fin) := pk_at HW.out.2 rfl
  clear h
  go_enter Tryz.func106, Tryz.ntmps106
  go_upto_region 1 with fail
  rw [← HE.out]
  go_wp2_with fail
  refine (wBool_any g v xs _ _ HI.out (by omega)).mono ?_
  rintro _ w1 ⟨rfl, hp⟩
  have HP : Hid (Puts w g v (xs ++ fdB 8 p) w1) := by rw [HE.out] at hp; exact hp.of_alloc
  clear hp HE c13
  go_wp2_with fail
  go_end0
  exact ⟨rfl, HP.out⟩

set_option maxHeartbeats 400000 in
theorem ptBytes (h : IsW w g v xs) (hb : xs.length ≤ 100000) (hs : SeesPk w tc bv p) (hl : p.bys.length ≤ 4096) (hap : ∀ k, liveB bv = some k → k ≠ g ∧ v.ownBlock ≠ some k) : Calls Tryz.prog 112 #[.pointer (some ⟨g, 0, none⟩), .agg (pkL p tc bv).toArray] w fun e w' => e = .returned (.tuple #[]) ∧ Puts w g v (xs ++ fdB 10 p) w' := by
  obtain ⟨W, HE, HW⟩ := pk_box p tc bv w
  have HI : Hid (IsW W g v xs ∧ Sees W bv p.bys ∧ ∀ k, liveB bv = some k → k ≠ g ∧ v.ownBlock ≠ some k) := ⟨by rw [HE.out]; exact h.alloc _, hs.bys.below HW.out.1 (Nat.le_refl _), hap⟩
  have c30 := (HW.out.2.tail hs.tx.len).2.1
  clear h hs hap
  go_enter Tryz.func112, Tryz.ntmps112
  go_upto_region 1 with fail
  rw [← HE.out]
  go_wp2_with fail
  refine (wBuffer_any g v bv xs p.bys _ HI.out.1 HI.out.2.1 HI.out.2.2 (by omega) (by omega)).mono ?_
  rintro _ w1 ⟨rfl, hp⟩
  have HP : Hid (Puts w g v (xs ++ fdB 10 p) w1) := by rw [HE.out] at hp; exact hp.of_alloc
  clear hp HE c30
  go_wp2_with fail
  go_end0
  exact ⟨rfl, HP.out⟩

set_option maxHeartbeats 400000 in
theorem ptSes (h : IsW w g v xs) (hb : xs.length ≤ 100000) (hs : SeesPk w tc bv p) : Calls Tryz.prog 117 #[.pointer (some ⟨g, 0, none⟩), .agg (pkL p tc bv).toArray] w fun e w' => e = .returned (.tuple #[]) ∧ Puts w g v (xs ++ fdB 11 p) w' := by
  obtain ⟨W, HE, HW⟩ := pk_box p tc bv w
  have HI : Hid (IsW W g v xs) := by rw [HE.out]; exact h.alloc _
  have c31 := (HW.out.2.tail hs.tx.len).2.2
  clear h hs
  go_enter Tryz.func117, Tryz.ntmps117
  go_upto_region 1 with fail
  rw [← HE.out]
  go_wp2_with fail
  refine (wInt64_any g v xs _ _ HI.out (by omega)).mono ?_
  rintro _ w1 ⟨rfl, hp⟩
  have HP : Hid (Puts w g v (xs ++ fdB 11 p) w1) := by rw [HE.out] at hp; exact hp.of_alloc
  clear hp HE c31
  go_wp2_with fail
  go_end0
  exact ⟨rfl, HP.out⟩

set_option maxHeartbeats 1000000 in
theorem ptTxn (h : IsW w g v xs) (hb : xs.length ≤ 100000) (hg : p.good) (hs : SeesPk w tc bv p) (hn : Nam w) (hok : txOk p.tx = true) : Calls Tryz.prog 109 #[.pointer (some ⟨g, 0, none⟩), .agg (pkL p tc bv).toArray] w fun e w' => e = .returned (.tuple #[]) ∧ Puts w g v (xs ++ fdB 9 p) w' := by
  obtain ⟨W, HE, HW⟩ := pk_box p tc bv w
  have HI : Hid (IsW W g v xs ∧ SeesTx W tc p.tx ∧ Nam W ∧ p.good ∧ txOk p.tx = true ∧ (txB p.tx).length ≤ 4096) := ⟨by rw [HE.out]; exact h.alloc _, hs.tx.below HW.out.1 (Nat.le_refl _), hn.below HW.out.1 hn.lt, hg, hok, txB_t p.tx hok⟩
  have l14 := (HW.out.2.tail hs.tx.len).1
  have q16 : (Tryz.prog.info? 37).map (·.size) = some tc.length := by rw [hs.tx.len]; exact txSz
  have HWR : Hid (∀ u : World, u = W → Calls Tryz.prog 130 #[.agg tc.toArray] u fun r w' => ∃ v, r = .returned (.tuple #[v, .int .i64 0]) ∧ Owns w' u.heap.size v (txB p.tx) ∧ Below u.heap.size u w') := fun u e => by
    subst e
    obtain ⟨rc, e, hr⟩ := HI.out.2.1
    rw [e]
    exact write_good p.tx rc u hr.live hg.tx HI.out.2.2.1 hok
  clear h hg hs hn hok
  go_enter Tryz.func109, Tryz.ntmps109
  go_upto_region 1 with fail
  rw [← HE.out]
  go_wp2_with (refine wpList_load_mid rfl 37 _ rfl w.heap.size 14 rfl tc _ l14 Tryz.underlying37 rfl q16 ?_)
  clear l14
  refine (HWR.out W rfl).mono ?_
  rintro _ w1 ⟨u, rfl, ho, b1⟩
  have H1 : Hid (IsW w1 g v xs ∧ Sees w1 u (txB p.tx) ∧ (∀ k, liveB u = some k → k ≠ g ∧ v.ownBlock ≠ some k) ∧ Below W.heap.size W w1) := by
    have hlt := HI.out.1.lt
    refine ⟨HI.out.1.kept (Below.kept b1) (by omega) (fun k hk => by have := hlt.2 k hk; omega), Sees.own ho, fun k hk => ?_, b1⟩
    have := (ho.lt k (live_own hk)).1
    exact ⟨by omega, fun e => by have := hlt.2 k e; omega⟩
  clear ho b1
  obtain ⟨u0, u1, u2, rfl⟩ := sees_form H1.out.2.1
  go_wp2_with fail
  refine (wBuffer_any g v _ xs (txB p.tx) _ H1.out.1 H1.out.2.1 H1.out.2.2.1 (by have := HI.out.2.2.2.2.2; omega) (by have := HI.out.2.2.2.2.2; omega)).mono ?_
  rintro _ w2 ⟨rfl, hp⟩
  have HP : Hid (Puts w g v (xs ++ fdB 9 p) w2) := by
    have a := Puts.next (w := W) (.inl rfl) ((Below.kept H1.out.2.2.2).mono (fun k hk e => by omega)) hp
    rw [HE.out] at a
    exact a.of_alloc
  clear hp HE
  go_wp2_with fail
  go_end0
  exact ⟨rfl, HP.out⟩
end

theorem put_any (j : Nat) (p : PkD) (tc : List Value) (bv : Value) (g : Nat) (v : Value) (xs : List Int) (w : World) (h : IsW w g v xs) (hb : xs.length ≤ 100000) (hg : p.good) (hs : SeesPk w tc bv p) (hn : Nam w) (hr : rgB j p = true) (hap : ∀ k, liveB bv = some k → k ≠ g ∧ v.ownBlock ≠ some k) :
    Calls Tryz.prog (fPt j) #[.pointer (some ⟨g, 0, none⟩), .agg (pkL p tc bv).toArray] w fun e w' => e = .returned (.tuple #[]) ∧ Puts w g v (xs ++ fdB j p) w' := by
  match j with
  | 0 => exact ptConn p tc bv g v xs w h hb hg
  | 1 => exact ptLead p tc bv g v xs w h hb hg
  | 2 => exact ptPlace p tc bv g v xs w h hb
  | 3 => exact ptEpoch p tc bv g v xs w h hb hg
  | 4 => exact ptCur p tc bv g v xs w h hb hg
  | 5 => exact ptZxid p tc bv g v xs w h hb hg
  | 6 => exact ptPrev p tc bv g v xs w h hb hg
  | 7 => exact ptCnt p tc bv g v xs w h hb
  | 8 => exact ptFin p tc bv g v xs w h hb
  | 9 => exact ptTxn p tc bv g v xs w h hb hg hs hn (by have h : txB15 p = true := hr; unfold txB15 at h; rw [Bool.and_eq_true] at h; exact h.1)
  | 10 => exact ptBytes p tc bv g v xs w h hb hs (by have h : decide (1 ≤ p.bys.length ∧ p.bys.length ≤ 4096) = true := hr; exact (of_decide_eq_true h).2) hap
  | _ + 11 => exact ptSes p tc bv g v xs w h hb hs
end Go.Proofs.YtldcbabgommghaaGreatDoor
