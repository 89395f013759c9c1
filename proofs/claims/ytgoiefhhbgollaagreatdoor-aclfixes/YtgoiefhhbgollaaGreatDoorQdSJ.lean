/- Requests and transactions as data, and what it means that they lie in memory; no Go function is walked here. -/
import Derived.Test.YtgoiefhhbgollaaGreatDoorMemJ
import Derived.Test.YtgoiefhhbgollaaGreatDoorProg
import Derived.ProofKit
import Derived.OpenShut
import Derived.ChangeOld
import Derived.Deep.Slices
import Derived.SizedLaws
import Derived.Test.YtgoiefhhbgollaaGreatDoorQcEJ
namespace Go.Proofs.YtgoiefhhbgollaaGreatDoor
open Go.RowKit
set_option maxRecDepth 8000

structure IdD where
  scheme : ByteArray
  name : ByteArray

structure EnD where
  perms : Int
  id : IdD

def IdD.cells (x : IdD) : List Value := [.string x.scheme, .string x.name]
def EnD.cells (x : EnD) : List Value := [.int .i8 x.perms, .string x.id.scheme, .string x.id.name]

/-- A request's fields, its Ops aside. -/
structure RqF where
  kind : Int
  path : ByteArray
  data : List Int
  acl : List EnD
  ver : Int
  eph : Bool
  seq : Bool
  ses : Int
  tmo : Int
  who : List IdD

inductive Rq where
  | mk (f : RqF) (n : Nat) (ops : Fin n → Rq) : Rq

def Rq.f : Rq → RqF
  | .mk f _ _ => f

/-- So many parts its own lists have. -/
def RqF.parts (f : RqF) : Nat := 1 + f.data.length + f.acl.length + f.who.length

def Rq.parts : Rq → Nat
  | .mk f n ops => f.parts + (List.ofFn fun i : Fin n => (ops i).parts).sum

/-- The parts of the first k inner requests. -/
def partsTo {n : Nat} (ops : Fin n → Rq) (k : Nat) : Nat := ((List.ofFn fun i : Fin n => (ops i).parts).take k).sum

theorem partsTo_zero {n : Nat} (ops : Fin n → Rq) : partsTo ops 0 = 0 := by simp [partsTo]
theorem partsTo_next {n : Nat} (ops : Fin n → Rq) (k : Nat) (h : k < n) : partsTo ops (k + 1) = partsTo ops k + (ops ⟨k, h⟩).parts := by
  unfold partsTo
  rw [List.take_succ_eq_append_getElem (by simpa using h)]
  simp
theorem partsTo_all {n : Nat} (ops : Fin n → Rq) : partsTo ops n = (List.ofFn fun i : Fin n => (ops i).parts).sum := by
  unfold partsTo
  rw [List.take_of_length_le (by simp)]
theorem Rq.parts_eq (f : RqF) (n : Nat) (ops : Fin n → Rq) : (Rq.mk f n ops).parts = f.parts + partsTo ops n := by
  rw [partsTo_all]; rfl
theorem parts_pos (r : Rq) : 0 < r.parts := by
  cases r with
  | mk f n ops => rw [Rq.parts_eq]; unfold RqF.parts; omega
theorem partsTo_le {n : Nat} (ops : Fin n → Rq) : ∀ k, k ≤ n → k ≤ partsTo ops k
  | 0, _ => Nat.zero_le _
  | k + 1, h => by
    have := partsTo_le ops k (by omega)
    have h1 := parts_pos (ops ⟨k, by omega⟩)
    rw [partsTo_next ops k (by omega)]
    omega
theorem partsTo_mono {n : Nat} (ops : Fin n → Rq) (k m : Nat) (h : k ≤ m) (hm : m ≤ n) : partsTo ops k ≤ partsTo ops m := by
  induction m with
  | zero => cases k with
    | zero => exact Nat.le_refl _
    | succ k => omega
  | succ m ih =>
    by_cases e : k = m + 1
    · subst e; exact Nat.le_refl _
    · have := ih (by omega) (by omega)
      rw [partsTo_next ops m (by omega)]
      omega
theorem part_le {n : Nat} (ops : Fin n → Rq) (i : Fin n) : (ops i).parts ≤ partsTo ops n := by
  have h1 := partsTo_next ops i.1 i.2
  have h2 := partsTo_mono ops (i.1 + 1) n (by omega) (Nat.le_refl _)
  have e : ops ⟨i.1, i.2⟩ = ops i := rfl
  rw [e] at h1
  omega

/-- What numbers and texts can be. -/
structure RqF.good (f : RqF) : Prop where
  k0 : -128 ≤ f.kind
  k1 : f.kind ≤ 127
  v0 : -2147483648 ≤ f.ver
  v1 : f.ver ≤ 2147483647
  s0 : -9223372036854775808 ≤ f.ses
  s1 : f.ses ≤ 9223372036854775807
  t0 : -2147483648 ≤ f.tmo
  t1 : f.tmo ≤ 2147483647
  byts : Byts f.data
  pl : f.path.size ≤ 140737488355328
  dl : f.data.length ≤ 140737488355328
  al : f.acl.length ≤ 140737488355328
  wl : f.who.length ≤ 140737488355328
  ae : ∀ x ∈ f.acl, -128 ≤ x.perms ∧ x.perms ≤ 127 ∧ x.id.scheme.size ≤ 140737488355328 ∧ x.id.name.size ≤ 140737488355328
  we : ∀ x ∈ f.who, x.scheme.size ≤ 140737488355328 ∧ x.name.size ≤ 140737488355328

def Rq.good : Rq → Prop
  | .mk f n ops => f.good ∧ n ≤ 140737488355328 ∧ ∀ i : Fin n, (ops i).good

/-- The slice value v leads to elements of z cells each: the cells of each. -/
def SeesR (w : World) (v : Value) (z : Nat) (cs : List (List Value)) : Prop :=
  ∃ (ao : Option Addr) (cap : Nat), v = .slice ao cs.length cap ∧ cs.length ≤ cap ∧ cap ≤ maxLen ∧ (ao = none → cap = 0) ∧
    (cs = [] ∨ ∃ b off, ao = some ⟨b, off, none⟩ ∧ ∀ i (hi : i < cs.length) j, j < z → w.cell? ⟨b, off + i * z + j, none⟩ = some (cs[i].getD j (.bool false)))

theorem SeesR.nil (w : World) (z : Nat) : SeesR w (.slice none 0 0) z [] := ⟨none, 0, rfl, Nat.le_refl _, by unfold maxLen; omega, fun _ => rfl, .inl rfl⟩

theorem SeesR.below {B : Nat} {w w' : World} {v : Value} {z : Nat} {cs : List (List Value)} (h : SeesR w v z cs) (hb : Below B w w') (hB : w.heap.size ≤ B) : SeesR w' v z cs := by
  obtain ⟨ao, cap, rfl, h1, h2, h0, h3⟩ := h
  refine ⟨ao, cap, rfl, h1, h2, h0, ?_⟩
  rcases h3 with h3 | ⟨b, off, rfl, h3⟩
  · exact .inl h3
  · exact .inr ⟨b, off, rfl, fun i hi j hj => cell_later (h3 i hi j hj) hb hB⟩

/-- A request's cells. -/
def rqCells (f : RqF) (dv av wv ov : Value) : List Value :=
  [.int .i8 f.kind, .string f.path, dv, av, .int .i32 f.ver, .bool f.eph, .bool f.seq, .int .i64 f.ses, .int .i32 f.tmo, wv, ov]

/-- The cells cs are those of the request r. -/
inductive SeesRq (w : World) : List Value → Rq → Prop where
  | mk (f : RqF) (n : Nat) (ops : Fin n → Rq) (dv av wv ov : Value) (oc : Fin n → List Value)
      (hd : Sees w dv f.data) (ha : SeesR w av 3 (f.acl.map EnD.cells)) (hw : SeesR w wv 2 (f.who.map IdD.cells)) (ho : SeesR w ov 11 (List.ofFn oc))
      (hs : ∀ i : Fin n, SeesRq w (oc i) (ops i)) : SeesRq w (rqCells f dv av wv ov) (.mk f n ops)

theorem SeesRq.len {w : World} {cs : List Value} {r : Rq} (h : SeesRq w cs r) : cs.length = 11 := by
  cases h; rfl

theorem SeesRq.later {B : Nat} {w w' : World} (hb : Below B w w') (hB : w.heap.size ≤ B) {cs : List Value} {r : Rq} (h : SeesRq w cs r) : SeesRq w' cs r := by
  induction h with
  | mk f n ops dv av wv ov oc hd ha hw ho _ ih => exact .mk f n ops dv av wv ov oc (hd.below hb hB) (ha.below hb hB) (hw.below hb hB) (ho.below hb hB) ih

/-- A transaction. -/
structure TxD where
  ep : Int
  n : Int
  srv : Int
  boot : Int
  num : Int
  rq : Rq

structure TxD.good (t : TxD) : Prop where
  e0 : 0 ≤ t.ep
  e1 : t.ep ≤ 4294967295
  n0 : 0 ≤ t.n
  n1 : t.n ≤ 4294967295
  s0 : -128 ≤ t.srv
  s1 : t.srv ≤ 127
  b0 : 0 ≤ t.boot
  b1 : t.boot ≤ 4294967295
  m0 : -9223372036854775808 ≤ t.num
  m1 : t.num ≤ 9223372036854775807
  rq : t.rq.good

def txHead (t : TxD) : List Value := [.int .u32 t.ep, .int .u32 t.n, .int .i8 t.srv, .int .u32 t.boot, .int .i64 t.num]

/-- The cells cs are those of the transaction t. -/
def SeesTx (w : World) (cs : List Value) (t : TxD) : Prop := ∃ rc, cs = txHead t ++ rc ∧ SeesRq w rc t.rq

theorem SeesTx.len {w : World} {cs : List Value} {t : TxD} (h : SeesTx w cs t) : cs.length = 16 := by
  obtain ⟨rc, rfl, h⟩ := h
  have := h.len
  simp [txHead, this]

theorem SeesTx.below {B : Nat} {w w' : World} (hb : Below B w w') (hB : w.heap.size ≤ B) {cs : List Value} {t : TxD} (h : SeesTx w cs t) : SeesTx w' cs t := by
  obtain ⟨rc, rfl, h⟩ := h
  exact ⟨rc, rfl, h.later hb hB⟩

/-- The slice value v leads to the transactions l. -/
def SeesTxs (w : World) (v : Value) (l : List TxD) : Prop :=
  ∃ cs : List (List Value), SeesR w v 16 cs ∧ cs.length = l.length ∧ ∀ i (h : i < cs.length) (k : i < l.length), SeesTx w cs[i] l[i]

theorem SeesTxs.below {B : Nat} {w w' : World} (hb : Below B w w') (hB : w.heap.size ≤ B) {v : Value} {l : List TxD} (h : SeesTxs w v l) : SeesTxs w' v l := by
  obtain ⟨cs, h1, h2, h3⟩ := h
  exact ⟨cs, h1.below hb hB, h2, fun i h k => (h3 i h k).below hb hB⟩

end Go.Proofs.YtgoiefhhbgollaaGreatDoor

/- Requests and transactions that came in, opened: what the statement's reading says of their cells; no Go function is walked here. -/
namespace Go.Proofs.YtgoiefhhbgollaaGreatDoor
open Go.ChangeShapes Go.WideShapes Go.ChangeAt Go.RowKit
set_option maxRecDepth 8000

theorem addr_plus (b off n : Nat) : (⟨b, off, none⟩ : Addr).add n = ⟨b, off + n, none⟩ := by
  by_cases h : n = 0
  · subst h; simp [Addr.add]
  · simp [Addr.add, h]

theorem reach_lt : reachBytes ≤ 140737488355328 := by
  have := reachBytes_lt
  have h47 : (2 : Nat) ^ 47 = 140737488355328 := by decide
  omega

section
variable {H : Type} {enc : TypeId × Value → H} {W : World} {base : Nat} {spare : Nat → Bool} {held : Bool}

theorem weights_all_mem {P : Program} {e : TypeId} : ∀ {ds : List (DataW H)} {d : DataW H}, d ∈ ds → ∀ n ∈ d.weights P e, n ∈ DataW.weightsAll P e ds
  | d0 :: ds, d, hd, n, hn => by
    simp only [DataW.weightsAll, List.mem_append]
    rcases List.mem_cons.1 hd with rfl | hd
    · exact .inl hn
    · exact .inr (weights_all_mem hd n hn)

theorem list_map_of {α β : Type} {f : α → β} {Q : α → Prop} : ∀ {cs : List β}, (∀ c ∈ cs, ∃ x, c = f x ∧ Q x) → ∃ l : List α, cs = l.map f ∧ ∀ x ∈ l, Q x
  | [], _ => ⟨[], rfl, fun x hx => by simp at hx⟩
  | c :: cs, h => by
    obtain ⟨x, e, hq⟩ := h c (by simp)
    obtain ⟨l, e', hl⟩ := list_map_of (cs := cs) (fun c hc => h c (by simp [hc]))
    refine ⟨x :: l, by simp [e, e'], fun y hy => ?_⟩
    rcases List.mem_cons.1 hy with rfl | hy
    · exact hq
    · exact hl y hy

/-- A list of elements of z cells that came in. -/
theorem open_rows {t e : TypeId} {z : Nat} {fuel : Nat} {v : Value} {x : DataW H × List MemPlace} (ht : Tryz.prog.underlying t = some (.slice e)) (hz : Tryz.prog.cellsOf e = z) (hb : 1 ≤ Tryz.prog.bytesOf e) (hz0 : 0 < z)
    (h : DataW.trod enc Tryz.prog W base spare held fuel t [v] = some x) (hw : (x.1.weights Tryz.prog t).all (· ≤ reachBytes) = true) :
    ∃ cs : List (List Value), SeesR W v z cs ∧ cs.length ≤ reachBytes ∧ ∀ c ∈ cs, ∃ (n : Nat) (y : DataW H × List MemPlace), DataW.trod enc Tryz.prog W base spare held n e c = some y ∧ SizeOf.sizeOf y.1 < SizeOf.sizeOf x.1 ∧ (y.1.weights Tryz.prog e).all (· ≤ reachBytes) = true := by
  rcases Deep.open_slice ht h with ⟨hcs, _⟩ | ⟨a, len, cap, m, n, D, Pl, hcs, _, hl, hm, hmm, hx, hel⟩
  · simp at hcs
    subst hcs
    exact ⟨[], SeesR.nil W z, Nat.zero_le _, fun c hc => by simp at hc⟩
  · simp at hcs
    subst hcs
    have hlm : len ≤ m := by rw [hmm]; split <;> omega
    rw [hx] at hw
    simp only [DataW.weights, ht, List.all_cons, List.all_append, Bool.and_eq_true, decide_eq_true_eq, List.length_map, List.length_range] at hw
    have hwd : ∀ i, i < len → ((D i).weights Tryz.prog e).all (· ≤ reachBytes) = true := by
      intro i hi
      have := hw.2.1
      rw [List.all_eq_true] at this ⊢
      intro q hq
      exact this q (weights_all_mem (List.mem_map.2 ⟨i, List.mem_range.2 hi, rfl⟩) q hq)
    have each : ∀ i, i < len → ∃ c : List Value, c.length = z ∧ (∀ j, j < z → W.cell? (a.add (i * z + j)) = c[j]?) ∧ DataW.trod enc Tryz.prog W base spare held n e c = some (D i, Pl i) := by
      intro i hi
      obtain ⟨cs', h1, h2⟩ := hel i (by omega)
      rw [hz] at h1
      obtain ⟨_, hlen, hcell⟩ := World.cells?_some h1
      refine ⟨cs', hlen, fun j hj => ?_, h2⟩
      have := hcell j hj
      rw [Deep.add_add] at this
      exact this
    obtain ⟨C, hC⟩ := Deep.choose_lt each
    have hol : ((List.range len).map C).length = len := by simp
    refine ⟨(List.range len).map C, ⟨some a, cap, by rw [hol], by omega, hm, fun e => by simp at e, ?_⟩, ?_, fun c hc => ?_⟩
    · by_cases h0 : len = 0
      · subst h0; exact .inl rfl
      · obtain ⟨b, off, spot⟩ := a
        obtain ⟨hc1, hc2, _⟩ := hC 0 (by omega)
        have hc0 : W.cell? ((⟨b, off, spot⟩ : Addr).add (0 * z + 0)) = some ((C 0)[0]'(by omega)) := by
          rw [hc2 0 hz0, List.getElem?_eq_getElem]
        have hspot : spot = none := by simpa [Addr.add] using World.cell?_spot hc0
        subst hspot
        refine .inr ⟨b, off, rfl, fun i hi j hj => ?_⟩
        rw [hol] at hi
        obtain ⟨hq1, hq2, _⟩ := hC i hi
        have := hq2 j hj
        rw [addr_plus, ← Nat.add_assoc] at this
        rw [this]
        simp only [List.getElem_map, List.getElem_range]
        rw [List.getD_eq_getElem?_getD, List.getElem?_eq_getElem (by omega)]
        rfl
    · rw [hol]
      have h1 : len * 1 ≤ len * Tryz.prog.bytesOf e := Nat.mul_le_mul_left len hb
      have h2 : len * Tryz.prog.bytesOf e ≤ reachBytes := Nat.le_trans (Nat.mul_le_mul_right _ (Nat.le_add_right len (m - len))) hw.1
      omega
    · obtain ⟨i, hi, rfl⟩ := List.mem_map.1 hc
      have hi' := List.mem_range.1 hi
      refine ⟨n, (D i, Pl i), (hC i hi').2.2, ?_, hwd i hi'⟩
      rw [hx]
      have hmem : D i ∈ (List.range len).map D := List.mem_map.2 ⟨i, hi, rfl⟩
      have := List.sizeOf_lt_of_mem hmem
      simp only [DataW.slice.sizeOf_spec]
      omega

/-- The weights of a struct's parts. -/
theorem parts_all {t : TypeId} {ts : List TypeId} {ys : List (DataW H)} (hw : (DataW.weightsEach Tryz.prog ts ys).all (· ≤ reachBytes) = true) (j : Nat) (d : DataW H) (ht : ts[j]? = some t) (hd : ys[j]? = some d) : (d.weights Tryz.prog t).all (· ≤ reachBytes) = true := by
  rw [List.all_eq_true] at hw ⊢
  intro m hm
  exact hw m (DataW.weights_mem_each (ts := ts) ht hd m hm)

theorem open_id {fuel : Nat} {cs : List Value} {x : DataW H × List MemPlace} (h : DataW.trod enc Tryz.prog W base spare held fuel 37 cs = some x) (hw : (x.1.weights Tryz.prog 37).all (· ≤ reachBytes) = true) :
    ∃ d : IdD, cs = d.cells ∧ d.scheme.size ≤ reachBytes ∧ d.name.size ≤ reachBytes := by
  have hcells : Tryz.prog.cellsOf 37 = 2 := by kernel_rfl
  obtain ⟨xs, n, _, hx, hl, hxl, hf⟩ := DataW.trod_struct Tryz.underlying37 h
  rw [hcells] at hl
  have q4 : Tryz.prog.cellsOf 9 = 1 := by kernel_rfl
  have g0 : DataW.trod enc Tryz.prog W base spare held n 9 ((cs.drop 0).take (Tryz.prog.cellsOf 9)) = xs[0]? := hf 0 _ rfl
  have g1 : DataW.trod enc Tryz.prog W base spare held n 9 ((cs.drop 1).take (Tryz.prog.cellsOf 9)) = xs[1]? := hf 1 _ rfl
  have hxl2 : xs.length = 2 := hxl
  clear hf hxl
  match xs, hxl2, cs, hl with
  | [y0, y1], _, [v0, v1], _ =>
    rw [q4] at g0 g1
    obtain ⟨s0, e0, d0, _⟩ := DataW.trod_string Tryz.underlying9 (show DataW.trod enc Tryz.prog W base spare held n 9 [v0] = some y0 from g0)
    obtain ⟨s1, e1, d1, _⟩ := DataW.trod_string Tryz.underlying9 (show DataW.trod enc Tryz.prog W base spare held n 9 [v1] = some y1 from g1)
    simp at e0 e1
    subst e0 e1
    rw [hx] at hw
    simp only [DataW.weights, Tryz.underlying37] at hw
    have h0 := parts_all (t := 9) hw 0 y0.1 rfl rfl
    have h1 := parts_all (t := 9) hw 1 y1.1 rfl rfl
    rw [d0] at h0
    rw [d1] at h1
    simp [DataW.weights] at h0 h1
    exact ⟨⟨s0, s1⟩, rfl, h0, h1⟩

theorem open_en {fuel : Nat} {cs : List Value} {x : DataW H × List MemPlace} (h : DataW.trod enc Tryz.prog W base spare held fuel 39 cs = some x) (hw : (x.1.weights Tryz.prog 39).all (· ≤ reachBytes) = true) :
    ∃ d : EnD, cs = d.cells ∧ -128 ≤ d.perms ∧ d.perms ≤ 127 ∧ d.id.scheme.size ≤ reachBytes ∧ d.id.name.size ≤ reachBytes := by
  have hcells : Tryz.prog.cellsOf 39 = 3 := by kernel_rfl
  obtain ⟨xs, n, _, hx, hl, hxl, hf⟩ := DataW.trod_struct Tryz.underlying39 h
  rw [hcells] at hl
  have q1 : Tryz.prog.cellsOf 35 = 1 := by kernel_rfl
  have q2 : Tryz.prog.cellsOf 37 = 2 := by kernel_rfl
  have g0 : DataW.trod enc Tryz.prog W base spare held n 35 ((cs.drop 0).take (Tryz.prog.cellsOf 35)) = xs[0]? := hf 0 _ rfl
  have g1 : DataW.trod enc Tryz.prog W base spare held n 37 ((cs.drop 1).take (Tryz.prog.cellsOf 37)) = xs[1]? := hf 1 _ rfl
  have hxl2 : xs.length = 2 := hxl
  clear hf hxl
  match xs, hxl2, cs, hl with
  | [y0, y1], _, [v0, v1, v2], _ =>
    rw [q1] at g0
    rw [q2] at g1
    rw [hx] at hw
    simp only [DataW.weights, Tryz.underlying39] at hw
    have h1 := parts_all (t := 37) hw 1 y1.1 rfl rfl
    obtain ⟨p, e0, _, w0⟩ := DataW.trod_int Tryz.underlying35 (show DataW.trod enc Tryz.prog W base spare held n 35 [v0] = some y0 from g0)
    obtain ⟨d, e1, hs, hn⟩ := open_id (show DataW.trod enc Tryz.prog W base spare held n 37 [v1, v2] = some y1 from g1) h1
    simp at e0
    subst e0
    have hb := bounds_i8 w0
    refine ⟨⟨p, d⟩, ?_, hb.1, hb.2, hs, hn⟩
    rw [show [Value.int .i8 p, v1, v2] = .int .i8 p :: [v1, v2] from rfl, e1]
    rfl

theorem open_ids {fuel : Nat} {v : Value} {x : DataW H × List MemPlace} (h : DataW.trod enc Tryz.prog W base spare held fuel 23 [v] = some x) (hw : (x.1.weights Tryz.prog 23).all (· ≤ reachBytes) = true) :
    ∃ l : List IdD, SeesR W v 2 (l.map IdD.cells) ∧ l.length ≤ reachBytes ∧ ∀ d ∈ l, d.scheme.size ≤ reachBytes ∧ d.name.size ≤ reachBytes := by
  obtain ⟨cs, hs, hl, hc⟩ := open_rows Tryz.underlying23 (z := 2) (by kernel_rfl) (of_decide_eq_true (by kernel_rfl)) (by omega) h hw
  obtain ⟨l, rfl, hq⟩ := list_map_of (f := IdD.cells) (Q := fun d => d.scheme.size ≤ reachBytes ∧ d.name.size ≤ reachBytes) (cs := cs) (fun c hcc => by
    obtain ⟨n, y, h1, _, h3⟩ := hc c hcc
    exact open_id h1 h3)
  exact ⟨l, hs, by simpa using hl, hq⟩

theorem open_acl {fuel : Nat} {v : Value} {x : DataW H × List MemPlace} (h : DataW.trod enc Tryz.prog W base spare held fuel 22 [v] = some x) (hw : (x.1.weights Tryz.prog 22).all (· ≤ reachBytes) = true) :
    ∃ l : List EnD, SeesR W v 3 (l.map EnD.cells) ∧ l.length ≤ reachBytes ∧ ∀ d ∈ l, -128 ≤ d.perms ∧ d.perms ≤ 127 ∧ d.id.scheme.size ≤ reachBytes ∧ d.id.name.size ≤ reachBytes := by
  obtain ⟨cs, hs, hl, hc⟩ := open_rows Tryz.underlying22 (z := 3) (by kernel_rfl) (of_decide_eq_true (by kernel_rfl)) (by omega) h hw
  obtain ⟨l, rfl, hq⟩ := list_map_of (f := EnD.cells) (Q := fun d => -128 ≤ d.perms ∧ d.perms ≤ 127 ∧ d.id.scheme.size ≤ reachBytes ∧ d.id.name.size ≤ reachBytes) (cs := cs) (fun c hcc => by
    obtain ⟨n, y, h1, _, h3⟩ := hc c hcc
    exact open_en h1 h3)
  exact ⟨l, hs, by simpa using hl, hq⟩

theorem open_dat {fuel : Nat} {v : Value} {x : DataW H × List MemPlace} (h : DataW.trod enc Tryz.prog W base spare held fuel 104 [v] = some x) (hw : (x.1.weights Tryz.prog 104).all (· ≤ reachBytes) = true) :
    ∃ ys : List Int, Sees W v ys ∧ Byts ys ∧ ys.length ≤ reachBytes := by
  obtain ⟨cs, hs, hl, hc⟩ := open_rows Tryz.underlying104 (z := 1) (by kernel_rfl) (of_decide_eq_true (by kernel_rfl)) (by omega) h hw
  obtain ⟨l, rfl, hq⟩ := list_map_of (f := fun n : Int => [Value.int .u8 n]) (Q := fun n => 0 ≤ n ∧ n ≤ 255) (cs := cs) (fun c hcc => by
    obtain ⟨n, y, h1, _, _⟩ := hc c hcc
    obtain ⟨p, e0, _, w0⟩ := DataW.trod_int Tryz.underlying5 h1
    exact ⟨p, e0, bounds_u8 w0⟩)
  obtain ⟨ao, cap, rfl, h1, h2, h0, h3⟩ := hs
  refine ⟨l, ⟨ao, cap, by simp, by simpa using h1, h2, h0, ?_⟩, hq, by simpa using hl⟩
  rcases h3 with h3 | ⟨b, off, rfl, h3⟩
  · exact .inl (by simpa using h3)
  · refine .inr ⟨b, off, rfl, fun i hi => ?_⟩
    have := h3 i (by simpa using hi) 0 (by omega)
    simp at this
    rw [this, List.getD_eq_getElem?_getD, List.getElem?_eq_getElem hi]
    rfl
end
end Go.Proofs.YtgoiefhhbgollaaGreatDoor

/- Lists of entries and of ids that came in, as SE and SI see them. -/
namespace Go.Proofs.YtgoiefhhbgollaaGreatDoor
open Go.RowKit Go.Shelf
set_option maxRecDepth 8000

def enOf (d : EnD) : EnT := (d.perms, d.id.scheme, d.id.name)
def idOf (d : IdD) : IdT := (d.scheme, d.name)

theorem SE_sees {W : World} {v : Value} {l : List EnD} (h : SeesR W v 3 (l.map EnD.cells)) : SE W v (l.map enOf) := by
  obtain ⟨ao, cap, rfl, hlc, _, _, h3⟩ := h
  refine ⟨ao, cap, by simp, by simpa using hlc, fun hn => ?_⟩
  rcases h3 with h3 | ⟨b, off, rfl, h3⟩
  · exact absurd (by simpa using h3) (by simpa using hn)
  · refine ⟨b, off, rfl, fun i x hx => ?_⟩
    rw [List.getElem?_map, Option.map_eq_some_iff] at hx
    obtain ⟨d, hd, rfl⟩ := hx
    obtain ⟨hi, hd2⟩ := List.getElem?_eq_some_iff.1 hd
    have e0 := h3 i (by simpa using hi) 0 (by omega)
    have e1 := h3 i (by simpa using hi) 1 (by omega)
    have e2 := h3 i (by simpa using hi) 2 (by omega)
    rw [List.getElem_map, hd2] at e0 e1 e2
    exact ⟨e0, e1, e2⟩

theorem SI_sees {W : World} {v : Value} {l : List IdD} (h : SeesR W v 2 (l.map IdD.cells)) : SI W v (l.map idOf) := by
  obtain ⟨ao, cap, rfl, hlc, _, _, h3⟩ := h
  refine ⟨ao, cap, by simp, by simpa using hlc, fun hn => ?_⟩
  rcases h3 with h3 | ⟨b, off, rfl, h3⟩
  · exact absurd (by simpa using h3) (by simpa using hn)
  · refine ⟨b, off, rfl, fun i x hx => ?_⟩
    rw [List.getElem?_map, Option.map_eq_some_iff] at hx
    obtain ⟨d, hd, rfl⟩ := hx
    obtain ⟨hi, hd2⟩ := List.getElem?_eq_some_iff.1 hd
    have e0 := h3 i (by simpa using hi) 0 (by omega)
    have e1 := h3 i (by simpa using hi) 1 (by omega)
    rw [List.getElem_map, hd2] at e0 e1
    exact ⟨e0, e1⟩

theorem reach_len : reachBytes ≤ 2 ^ 62 := by have := reach_lt; omega

end Go.Proofs.YtgoiefhhbgollaaGreatDoor
