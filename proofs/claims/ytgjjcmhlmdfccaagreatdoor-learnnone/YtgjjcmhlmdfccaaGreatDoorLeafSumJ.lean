/- Requests and transactions as data, and what it means that they lie in memory; no Go function is walked here. -/
import Derived.Test.YtgjjcmhlmdfccaaGreatDoorStorJ
import Derived.Test.YtgjjcmhlmdfccaaGreatDoorProg
namespace Go.Proofs.YtgjjcmhlmdfccaaGreatDoor
open Go.RowKit
set_option maxRecDepth 8000

structure IdD where
  scheme : ByteArray
  name : ByteArray

structure EnD where
  perms : Int
  id : IdD

def IdD.cells (x : IdD) : List Value := [.string x.scheme, .string x.name]
def EnD.cells (x : EnD) : List Value := [.int .i8 x.perms, .string x.id.scheme, .string x.id.name]

/-- A request's fields, its Ops aside. -/
structure RqF where
  kind : Int
  path : ByteArray
  data : List Int
  acl : List EnD
  ver : Int
  eph : Bool
  seq : Bool
  ses : Int
  tmo : Int
  who : List IdD

inductive Rq where
  | mk (f : RqF) (n : Nat) (ops : Fin n → Rq) : Rq

def Rq.f : Rq → RqF
  | .mk f _ _ => f

/-- So many parts its own lists have. -/
def RqF.parts (f : RqF) : Nat := 1 + f.data.length + f.acl.length + f.who.length

def Rq.parts : Rq → Nat
  | .mk f n ops => f.parts + (List.ofFn fun i : Fin n => (ops i).parts).sum

/-- The parts of the first k inner requests. -/
def partsTo {n : Nat} (ops : Fin n → Rq) (k : Nat) : Nat := ((List.ofFn fun i : Fin n => (ops i).parts).take k).sum

theorem partsTo_zero {n : Nat} (ops : Fin n → Rq) : partsTo ops 0 = 0 := by simp [partsTo]
theorem partsTo_next {n : Nat} (ops : Fin n → Rq) (k : Nat) (h : k < n) : partsTo ops (k + 1) = partsTo ops k + (ops ⟨k, h⟩).parts := by
  unfold partsTo
  rw [List.take_succ_eq_append_getElem (by simpa using h)]
  simp
theorem partsTo_all {n : Nat} (ops : Fin n → Rq) : partsTo ops n = (List.ofFn fun i : Fin n => (ops i).parts).sum := by
  unfold partsTo
  rw [List.take_of_length_le (by simp)]
theorem Rq.parts_eq (f : RqF) (n : Nat) (ops : Fin n → Rq) : (Rq.mk f n ops).parts = f.parts + partsTo ops n := by
  rw [partsTo_all]; rfl
theorem parts_pos (r : Rq) : 0 < r.parts := by
  cases r with
  | mk f n ops => rw [Rq.parts_eq]; unfold RqF.parts; omega
theorem partsTo_le {n : Nat} (ops : Fin n → Rq) : ∀ k, k ≤ n → k ≤ partsTo ops k
  | 0, _ => Nat.zero_le _
  | k + 1, h => by
    have := partsTo_le ops k (by omega)
    have h1 := parts_pos (ops ⟨k, by omega⟩)
    rw [partsTo_next ops k (by omega)]
    omega
theorem partsTo_mono {n : Nat} (ops : Fin n → Rq) (k m : Nat) (h : k ≤ m) (hm : m ≤ n) : partsTo ops k ≤ partsTo ops m := by
  induction m with
  | zero => cases k with
    | zero => exact Nat.le_refl _
    | succ k => omega
  | succ m ih =>
    by_cases e : k = m + 1
    · subst e; exact Nat.le_refl _
    · have := ih (by omega) (by omega)
      rw [partsTo_next ops m (by omega)]
      omega
theorem part_le {n : Nat} (ops : Fin n → Rq) (i : Fin n) : (ops i).parts ≤ partsTo ops n := by
  have h1 := partsTo_next ops i.1 i.2
  have h2 := partsTo_mono ops (i.1 + 1) n (by omega) (Nat.le_refl _)
  have e : ops ⟨i.1, i.2⟩ = ops i := rfl
  rw [e] at h1
  omega

/-- What numbers and texts can be. -/
structure RqF.good (f : RqF) : Prop where
  k0 : -128 ≤ f.kind
  k1 : f.kind ≤ 127
  v0 : -2147483648 ≤ f.ver
  v1 : f.ver ≤ 2147483647
  s0 : -9223372036854775808 ≤ f.ses
  s1 : f.ses ≤ 9223372036854775807
  t0 : -2147483648 ≤ f.tmo
  t1 : f.tmo ≤ 2147483647
  byts : Byts f.data
  pl : f.path.size ≤ 140737488355328
  dl : f.data.length ≤ 140737488355328
  al : f.acl.length ≤ 140737488355328
  wl : f.who.length ≤ 140737488355328
  ae : ∀ x ∈ f.acl, -128 ≤ x.perms ∧ x.perms ≤ 127 ∧ x.id.scheme.size ≤ 140737488355328 ∧ x.id.name.size ≤ 140737488355328
  we : ∀ x ∈ f.who, x.scheme.size ≤ 140737488355328 ∧ x.name.size ≤ 140737488355328

def Rq.good : Rq → Prop
  | .mk f n ops => f.good ∧ n ≤ 140737488355328 ∧ ∀ i : Fin n, (ops i).good

/-- The slice value v leads to elements of z cells each: the cells of each. -/
def SeesR (w : World) (v : Value) (z : Nat) (cs : List (List Value)) : Prop :=
  ∃ (ao : Option Addr) (cap : Nat), v = .slice ao cs.length cap ∧ cs.length ≤ cap ∧ cap ≤ maxLen ∧ (ao = none → cap = 0) ∧
    (cs = [] ∨ ∃ b off, ao = some ⟨b, off, none⟩ ∧ ∀ i (hi : i < cs.length) j, j < z → w.cell? ⟨b, off + i * z + j, none⟩ = some (cs[i].getD j (.bool false)))

theorem SeesR.nil (w : World) (z : Nat) : SeesR w (.slice none 0 0) z [] := ⟨none, 0, rfl, Nat.le_refl _, by unfold maxLen; omega, fun _ => rfl, .inl rfl⟩

theorem SeesR.below {B : Nat} {w w' : World} {v : Value} {z : Nat} {cs : List (List Value)} (h : SeesR w v z cs) (hb : Below B w w') (hB : w.heap.size ≤ B) : SeesR w' v z cs := by
  obtain ⟨ao, cap, rfl, h1, h2, h0, h3⟩ := h
  refine ⟨ao, cap, rfl, h1, h2, h0, ?_⟩
  rcases h3 with h3 | ⟨b, off, rfl, h3⟩
  · exact .inl h3
  · exact .inr ⟨b, off, rfl, fun i hi j hj => cell_later (h3 i hi j hj) hb hB⟩

/-- A request's cells. -/
def rqCells (f : RqF) (dv av wv ov : Value) : List Value :=
  [.int .i8 f.kind, .string f.path, dv, av, .int .i32 f.ver, .bool f.eph, .bool f.seq, .int .i64 f.ses, .int .i32 f.tmo, wv, ov]

/-- The cells cs are those of the request r. -/
inductive SeesRq (w : World) : List Value → Rq → Prop where
  | mk (f : RqF) (n : Nat) (ops : Fin n → Rq) (dv av wv ov : Value) (oc : Fin n → List Value)
      (hd : Sees w dv f.data) (ha : SeesR w av 3 (f.acl.map EnD.cells)) (hw : SeesR w wv 2 (f.who.map IdD.cells)) (ho : SeesR w ov 11 (List.ofFn oc))
      (hs : ∀ i : Fin n, SeesRq w (oc i) (ops i)) : SeesRq w (rqCells f dv av wv ov) (.mk f n ops)

theorem SeesRq.len {w : World} {cs : List Value} {r : Rq} (h : SeesRq w cs r) : cs.length = 11 := by
  cases h; rfl

theorem SeesRq.later {B : Nat} {w w' : World} (hb : Below B w w') (hB : w.heap.size ≤ B) {cs : List Value} {r : Rq} (h : SeesRq w cs r) : SeesRq w' cs r := by
  induction h with
  | mk f n ops dv av wv ov oc hd ha hw ho _ ih => exact .mk f n ops dv av wv ov oc (hd.below hb hB) (ha.below hb hB) (hw.below hb hB) (ho.below hb hB) ih

/-- A transaction. -/
structure TxD where
  ep : Int
  n : Int
  srv : Int
  boot : Int
  num : Int
  rq : Rq

structure TxD.good (t : TxD) : Prop where
  e0 : 0 ≤ t.ep
  e1 : t.ep ≤ 4294967295
  n0 : 0 ≤ t.n
  n1 : t.n ≤ 4294967295
  s0 : -128 ≤ t.srv
  s1 : t.srv ≤ 127
  b0 : 0 ≤ t.boot
  b1 : t.boot ≤ 4294967295
  m0 : -9223372036854775808 ≤ t.num
  m1 : t.num ≤ 9223372036854775807
  rq : t.rq.good

def txHead (t : TxD) : List Value := [.int .u32 t.ep, .int .u32 t.n, .int .i8 t.srv, .int .u32 t.boot, .int .i64 t.num]

/-- The cells cs are those of the transaction t. -/
def SeesTx (w : World) (cs : List Value) (t : TxD) : Prop := ∃ rc, cs = txHead t ++ rc ∧ SeesRq w rc t.rq

theorem SeesTx.len {w : World} {cs : List Value} {t : TxD} (h : SeesTx w cs t) : cs.length = 16 := by
  obtain ⟨rc, rfl, h⟩ := h
  have := h.len
  simp [txHead, this]

theorem SeesTx.below {B : Nat} {w w' : World} (hb : Below B w w') (hB : w.heap.size ≤ B) {cs : List Value} {t : TxD} (h : SeesTx w cs t) : SeesTx w' cs t := by
  obtain ⟨rc, rfl, h⟩ := h
  exact ⟨rc, rfl, h.later hb hB⟩

/-- The slice value v leads to the transactions l. -/
def SeesTxs (w : World) (v : Value) (l : List TxD) : Prop :=
  ∃ cs : List (List Value), SeesR w v 16 cs ∧ cs.length = l.length ∧ ∀ i (h : i < cs.length) (k : i < l.length), SeesTx w cs[i] l[i]

end Go.Proofs.YtgjjcmhlmdfccaaGreatDoor

/- What pack.Sum and EqBytes of lagoonref00 answer: the Adler-32 sum of the bytes that are given; whether two lists of bytes are the same. -/
namespace Go.Proofs.YtgjjcmhlmdfccaaGreatDoor
open Go.RowKit
set_option maxRecDepth 8000

set_option maxHeartbeats 400000 in
theorem eqBytes_any (v u : Value) (xs ys : List Int) (w : World) (h : Sees w v xs) (g : Sees w u ys) :
    Calls Tryz.prog 19 #[v, u] w fun e w' => e = .returned (.bool (decide (xs = ys))) ∧ ∃ n, w' = w.drewN n := by
  obtain ⟨ao, cap, rfl, hlc, hcm, _, h3⟩ := h
  obtain ⟨bo, cbp, rfl, glc, gcm, _, g3⟩ := g
  unfold maxLen at hcm gcm
  by_cases hl : xs.length = ys.length
  · have hl1 : xs.length ≤ ys.length := by omega
    have hl2 : ys.length ≤ xs.length := by omega
    have hn0 : ((xs.length : Int) != (ys.length : Int)) = false := by simp; omega
    clear hl
    go_enter Tryz.func19, Tryz.ntmps19
    go_wp2
    go_loopw [5] (fun i wr => ∃ k m : Nat, k ≤ xs.length ∧ i = .int .i64 k ∧ xs.take k = ys.take k ∧ wr = w.drewN m) (fun i _ => xs.length - (intOf i).toNat)
    case atStart => exact ⟨0, 0, Nat.zero_le _, rfl, rfl, rfl⟩
    case round =>
      obtain ⟨k, m, hk, rfl, heq, rfl⟩ := hrel
      have HE : Hid _ := heq
      clear heq
      by_cases hlt : k < xs.length
      · rcases h3 with h3 | ⟨b, off, rfl, h3⟩
        · subst h3; simp at hlt
        · rcases g3 with g3 | ⟨b', off', rfl, g3⟩
          · have : ys.length = 0 := by rw [g3]; rfl
            omega
          · have hlt' : k < ys.length := by omega
            have hc := h3 k hlt
            have gc := g3 k hlt'
            have HN : Hid _ := take_next_eq hlt hlt' HE.out
            have HD : Hid _ := ne_of_nth (xs := xs) (ys := ys) k
            clear h3 g3
            generalize xs.getD k 0 = x at *
            generalize ys.getD k 0 = y at *
            by_cases hxy : x = y
            · subst hxy
              go_wp2
              go_region
              all_goals go_wp2
              all_goals go_roundw
              case rel => exact ⟨k + 1, _, by omega, by go_num, HN.out trivial, rfl⟩
              case measure => simp [intOf]; omega
            · have hne : (x != y) = true := by simp [hxy]
              clear hxy
              go_wp2
              go_region
              all_goals go_wp2
              all_goals go_ret
              have hxy : x ≠ y := by simpa using hne
              exact ⟨by rw [decide_eq_false (HD.out hxy)]; rfl, _, rfl⟩
      · have he : xs = ys := by
          have := HE.out
          rw [List.take_of_length_le (by omega), List.take_of_length_le (by omega)] at this
          exact this
        subst he
        go_wp2
        go_ret
        exact ⟨by simp, _, rfl⟩
  · have hn : ((xs.length : Int) != (ys.length : Int)) = true := by simp; omega
    have hq : xs ≠ ys := fun e => hl (by rw [e])
    have HQ : Hid _ := hq
    clear hl hq
    go_enter Tryz.func19, Tryz.ntmps19
    go_wp2
    go_ret
    exact ⟨by rw [decide_eq_false HQ.out]; rfl, 0, rfl⟩

end Go.Proofs.YtgjjcmhlmdfccaaGreatDoor
