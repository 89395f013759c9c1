/- EqAcl and EqIds of lagoonref00 at two lists of the same data: true; nothing is changed. -/
import Derived.Test.YtbdokdhconhifaaGreatDoorRqJ
import Derived.BigQuiet
import Derived.Lib.LaidTab
import Derived.Deep.RegionHeld
import Derived.Test.YtbdokdhconhifaaGreatDoorProg
import Derived.Test.YtbdokdhconhifaaGreatDoorMemJ
import Derived.Maps.AppendAt
namespace Go.Proofs.YtbdokdhconhifaaGreatDoor
open Go.RowKit
set_option maxRecDepth 8000

theorem neqId (a b : ByteArray) (w : World) : (binOp .neq 135 (.agg #[.string a, .string b]) (.agg #[.string a, .string b])).run Tryz.prog w = .ok (.bool false) w := by
  have hu : Tryz.prog.underlying 135 = some (.struct (Tryz.prog.fieldsOf 135)) := by kernel_rfl
  have hp : Tryz.prog.stoodInHeld 135 = false := by kernel_rfl
  have u3 := Tryz.underlying9
  have a3 := Tryz.isAgg9
  have z3 := Tryz.sizeOf9
  rw [run_neq_struct, show (10000 : Nat) = 9999 + 1 from rfl, run_equalIn_agg w 9999 _ _ _ hu hp]
  simp only [Program.fieldsOf, Tryz.underlying135]
  go_simp

theorem eqIdIn (d : Nat) (a b : ByteArray) (w : World) : (Op.equalIn (d + 1 + 1) 135 (.agg #[.string a, .string b]) (.agg #[.string a, .string b])).run Tryz.prog w = .ok true w := by
  have hu : Tryz.prog.underlying 135 = some (.struct (Tryz.prog.fieldsOf 135)) := by kernel_rfl
  have hp : Tryz.prog.stoodInHeld 135 = false := by kernel_rfl
  have u3 := Tryz.underlying9
  have a3 := Tryz.isAgg9
  have z3 := Tryz.sizeOf9
  rw [run_equalIn_agg w (d + 1) _ _ _ hu hp]
  simp only [Program.fieldsOf, Tryz.underlying135]
  go_simp

theorem neqEn (p : Int) (a b : ByteArray) (w : World) : (binOp .neq 140 (.agg #[.int .i8 p, .string a, .string b]) (.agg #[.int .i8 p, .string a, .string b])).run Tryz.prog w = .ok (.bool false) w := by
  have hu : Tryz.prog.underlying 140 = some (.struct (Tryz.prog.fieldsOf 140)) := by kernel_rfl
  have hp : Tryz.prog.stoodInHeld 140 = false := by kernel_rfl
  have hin : ∀ w, (Op.equalIn 9999 135 (.agg #[.string a, .string b]) (.agg #[.string a, .string b])).run Tryz.prog w = .ok true w := eqIdIn 9997 a b
  have u4 := Tryz.underlying138
  have a4 := Tryz.isAgg138
  have z4 := Tryz.sizeOf138
  have a5 := Tryz.isAgg135
  have z5 := Tryz.sizeOf135
  rw [run_neq_struct, show (10000 : Nat) = 9999 + 1 from rfl, run_equalIn_agg w 9999 _ _ _ hu hp]
  simp only [Program.fieldsOf, Tryz.underlying140]
  clear hu hp
  go_simp

end Go.Proofs.YtbdokdhconhifaaGreatDoor
/- What the small parts of txn.Check answer: isZxid, isOrigin, the layouts, names, bit, filled, needed. -/
namespace Go.Proofs.YtbdokdhconhifaaGreatDoor
open Go.RowKit
set_option maxRecDepth 8000

def zxOk (e n : Int) : Bool := decide ((e = 0 ∧ n = 0) ∨ (1 ≤ e ∧ e ≤ 2147483647 ∧ 1 ≤ n))

abbrev orig (s b m : Int) : Value := .agg #[.int .i8 s, .int .u32 b, .int .i64 m]
def origOk (s m : Int) : Bool := decide (0 ≤ s ∧ s < 7 ∧ 0 ≤ m)

abbrev lay (last wo : Int) : Value := .agg #[.int .i8 last, .int .u16 wo]

/-- A field's bit, where it is on. -/
def bz (n : Int) (b : Bool) : Int := if b then n else 0

def need (k : Int) : Int := if k = 6 then 512 else if k = 7 then 128 else if k = 8 then 64 else 0

def tabN (k : Int) : Int := ([0, 375, 329, 331, 333, 329, 832, 128, 64, 321, 321, 321, 321] : List Int).getD k.toNat 0

/-- What a kind names there. -/
def nms (last wo k : Int) : Int := if k < 1 ∨ last < k then 0 else bits .andNot .u16 (tabN k) wo

/-- What of a request is not zero, as bits. -/
def fillz (p d a v e s z t o q : Bool) : Int :=
  bits .or .u16 (bits .or .u16 (bits .or .u16 (bits .or .u16 (bits .or .u16 (bits .or .u16 (bits .or .u16 (bits .or .u16 (bits .or .u16 (bz 1 p) (bz 2 d)) (bz 4 a)) (bz 8 v)) (bz 16 e)) (bz 32 s)) (bz 64 z)) (bz 128 t)) (bz 256 o)) (bz 512 q)

/-- An id that may be. -/
def idOk (x : IdD) : Bool := decide (x.scheme.size ≤ 24 ∧ x.name.size ≤ 24)

end Go.Proofs.YtbdokdhconhifaaGreatDoor
/- What isList of package txn answers, at entries, ids and requests. -/
namespace Go.Proofs.YtbdokdhconhifaaGreatDoor
open Go.RowKit
set_option maxRecDepth 8000

theorem all_take_next {α : Type} (p : α → Bool) (l : List α) (k : Nat) (h : k < l.length) : (l.take (k + 1)).all p = ((l.take k).all p && p l[k]) := by
  rw [List.take_succ_eq_append_getElem h, List.all_append]; simp

theorem all_bad {α : Type} (p : α → Bool) (l : List α) (k : Nat) (h : k < l.length) (hp : p l[k] = false) : l.all p = false := by
  by_cases ha : l.all p = true
  · rw [List.all_eq_true] at ha
    rw [ha _ (List.getElem_mem h)] at hp
    cases hp
  · simpa using ha

theorem all_fn_next {n : Nat} (p : Fin n → Bool) (k : Nat) (h : k < n) : ((List.ofFn p).take (k + 1)).all id = (((List.ofFn p).take k).all id && p ⟨k, h⟩) := by
  rw [all_take_next id (List.ofFn p) k (by simpa using h)]; simp
theorem all_fn_bad {n : Nat} (p : Fin n → Bool) (k : Nat) (h : k < n) (hp : p ⟨k, h⟩ = false) : (List.ofFn p).all id = false :=
  all_bad id (List.ofFn p) k (by simpa using h) (by simpa using hp)

theorem seesR_form {w : World} {v : Value} {z : Nat} {cs : List (List Value)} (h : SeesR w v z cs) : ∃ a n c, v = .slice a n c := by
  obtain ⟨ao, cap, rfl, _⟩ := h; exact ⟨_, _, _, rfl⟩
theorem sees_form {w : World} {v : Value} {xs : List Int} (h : Sees w v xs) : ∃ a n c, v = .slice a n c := by
  obtain ⟨ao, cap, rfl, _⟩ := h; exact ⟨_, _, _, rfl⟩

theorem rq_forms {w : World} {cs : List Value} {r : Rq} (h : SeesRq w cs r) : ∃ (k : Int) (s : ByteArray) (da : Option Addr) (dl dc : Nat) (aa : Option Addr) (al ac : Nat) (v : Int) (e q : Bool) (z t : Int) (wa : Option Addr) (wl wc : Nat) (oa : Option Addr) (ol oc : Nat),
    cs = [.int .i8 k, .string s, .slice da dl dc, .slice aa al ac, .int .i32 v, .bool e, .bool q, .int .i64 z, .int .i32 t, .slice wa wl wc, .slice oa ol oc] := by
  cases h with
  | mk f n ops dv av wv ov oc hd ha hw ho hs =>
    obtain ⟨a1, n1, c1, rfl⟩ := sees_form hd
    obtain ⟨a2, n2, c2, rfl⟩ := seesR_form ha
    obtain ⟨a3, n3, c3, rfl⟩ := seesR_form hw
    obtain ⟨a4, n4, c4, rfl⟩ := seesR_form ho
    exact ⟨_, _, _, _, _, _, _, _, _, _, _, _, _, _, _, _, _, _, _, rfl⟩

end Go.Proofs.YtbdokdhconhifaaGreatDoor
/- EqRequest and EqTxn of lagoonref00 at two requests, two transactions of the same data: true; nothing that was there is changed. -/
namespace Go.Proofs.YtbdokdhconhifaaGreatDoor
open Go.RowKit
set_option maxRecDepth 8000

theorem below_of_drewN {w w' : World} (h : ∃ n, w' = w.drewN n) : Below w.heap.size w w' := by
  obtain ⟨n, rfl⟩ := h
  exact below_drewN (Below.refl _ _) _

theorem seesR_shape {w : World} {v : Value} {z : Nat} {cs : List (List Value)} (h : SeesR w v z cs) : ∃ a c, v = .slice a cs.length c := by
  obtain ⟨ao, cap, rfl, _⟩ := h; exact ⟨_, _, rfl⟩

theorem rq_inv {w : World} {cs : List Value} {f : RqF} {n : Nat} {ops : Fin n → Rq} (h : SeesRq w cs (.mk f n ops)) : ∃ dv av wv ov oc, cs = rqCells f dv av wv ov ∧ Sees w dv f.data ∧ SeesR w av 3 (f.acl.map EnD.cells) ∧ SeesR w wv 2 (f.who.map IdD.cells) ∧ SeesR w ov 11 (List.ofFn oc) ∧ ∀ i : Fin n, SeesRq w (oc i) (ops i) := by
  cases h with
  | mk _ _ _ dv av wv ov oc hd ha hw ho hs => exact ⟨dv, av, wv, ov, oc, rfl, hd, ha, hw, ho, hs⟩

theorem keepQ {W W' : World} {N b o c p : Nat} {z0 z1 z2 z3 z4 z5 z6 z7 z8 z9 z10 z11 z12 z13 z14 z15 z16 z17 z18 z19 z20 z21 z22 z23 : Value} (hb : Below W.heap.size W W') (h : W.cell? ⟨N, 10, none⟩ = some z0 ∧ W.cell? ⟨N + 1, 10, none⟩ = some z1 ∧ W.cell? ⟨b, o, none⟩ = some z2 ∧ W.cell? ⟨b, o + 1, none⟩ = some z3 ∧ W.cell? ⟨b, o + 2, none⟩ = some z4 ∧ W.cell? ⟨b, o + 3, none⟩ = some z5 ∧ W.cell? ⟨b, o + 4, none⟩ = some z6 ∧ W.cell? ⟨b, o + 5, none⟩ = some z7 ∧ W.cell? ⟨b, o + 6, none⟩ = some z8 ∧ W.cell? ⟨b, o + 7, none⟩ = some z9 ∧ W.cell? ⟨b, o + 8, none⟩ = some z10 ∧ W.cell? ⟨b, o + 9, none⟩ = some z11 ∧ W.cell? ⟨b, o + 10, none⟩ = some z12 ∧ W.cell? ⟨c, p, none⟩ = some z13 ∧ W.cell? ⟨c, p + 1, none⟩ = some z14 ∧ W.cell? ⟨c, p + 2, none⟩ = some z15 ∧ W.cell? ⟨c, p + 3, none⟩ = some z16 ∧ W.cell? ⟨c, p + 4, none⟩ = some z17 ∧ W.cell? ⟨c, p + 5, none⟩ = some z18 ∧ W.cell? ⟨c, p + 6, none⟩ = some z19 ∧ W.cell? ⟨c, p + 7, none⟩ = some z20 ∧ W.cell? ⟨c, p + 8, none⟩ = some z21 ∧ W.cell? ⟨c, p + 9, none⟩ = some z22 ∧ W.cell? ⟨c, p + 10, none⟩ = some z23) :
    W'.cell? ⟨N, 10, none⟩ = some z0 ∧ W'.cell? ⟨N + 1, 10, none⟩ = some z1 ∧ W'.cell? ⟨b, o, none⟩ = some z2 ∧ W'.cell? ⟨b, o + 1, none⟩ = some z3 ∧ W'.cell? ⟨b, o + 2, none⟩ = some z4 ∧ W'.cell? ⟨b, o + 3, none⟩ = some z5 ∧ W'.cell? ⟨b, o + 4, none⟩ = some z6 ∧ W'.cell? ⟨b, o + 5, none⟩ = some z7 ∧ W'.cell? ⟨b, o + 6, none⟩ = some z8 ∧ W'.cell? ⟨b, o + 7, none⟩ = some z9 ∧ W'.cell? ⟨b, o + 8, none⟩ = some z10 ∧ W'.cell? ⟨b, o + 9, none⟩ = some z11 ∧ W'.cell? ⟨b, o + 10, none⟩ = some z12 ∧ W'.cell? ⟨c, p, none⟩ = some z13 ∧ W'.cell? ⟨c, p + 1, none⟩ = some z14 ∧ W'.cell? ⟨c, p + 2, none⟩ = some z15 ∧ W'.cell? ⟨c, p + 3, none⟩ = some z16 ∧ W'.cell? ⟨c, p + 4, none⟩ = some z17 ∧ W'.cell? ⟨c, p + 5, none⟩ = some z18 ∧ W'.cell? ⟨c, p + 6, none⟩ = some z19 ∧ W'.cell? ⟨c, p + 7, none⟩ = some z20 ∧ W'.cell? ⟨c, p + 8, none⟩ = some z21 ∧ W'.cell? ⟨c, p + 9, none⟩ = some z22 ∧ W'.cell? ⟨c, p + 10, none⟩ = some z23 :=
  ⟨cell_later h.1 hb (Nat.le_refl _), cell_later h.2.1 hb (Nat.le_refl _), cell_later h.2.2.1 hb (Nat.le_refl _), cell_later h.2.2.2.1 hb (Nat.le_refl _), cell_later h.2.2.2.2.1 hb (Nat.le_refl _), cell_later h.2.2.2.2.2.1 hb (Nat.le_refl _), cell_later h.2.2.2.2.2.2.1 hb (Nat.le_refl _), cell_later h.2.2.2.2.2.2.2.1 hb (Nat.le_refl _), cell_later h.2.2.2.2.2.2.2.2.1 hb (Nat.le_refl _), cell_later h.2.2.2.2.2.2.2.2.2.1 hb (Nat.le_refl _), cell_later h.2.2.2.2.2.2.2.2.2.2.1 hb (Nat.le_refl _), cell_later h.2.2.2.2.2.2.2.2.2.2.2.1 hb (Nat.le_refl _), cell_later h.2.2.2.2.2.2.2.2.2.2.2.2.1 hb (Nat.le_refl _), cell_later h.2.2.2.2.2.2.2.2.2.2.2.2.2.1 hb (Nat.le_refl _), cell_later h.2.2.2.2.2.2.2.2.2.2.2.2.2.2.1 hb (Nat.le_refl _), cell_later h.2.2.2.2.2.2.2.2.2.2.2.2.2.2.2.1 hb (Nat.le_refl _), cell_later h.2.2.2.2.2.2.2.2.2.2.2.2.2.2.2.2.1 hb (Nat.le_refl _), cell_later h.2.2.2.2.2.2.2.2.2.2.2.2.2.2.2.2.2.1 hb (Nat.le_refl _), cell_later h.2.2.2.2.2.2.2.2.2.2.2.2.2.2.2.2.2.2.1 hb (Nat.le_refl _), cell_later h.2.2.2.2.2.2.2.2.2.2.2.2.2.2.2.2.2.2.2.1 hb (Nat.le_refl _), cell_later h.2.2.2.2.2.2.2.2.2.2.2.2.2.2.2.2.2.2.2.2.1 hb (Nat.le_refl _), cell_later h.2.2.2.2.2.2.2.2.2.2.2.2.2.2.2.2.2.2.2.2.2.1 hb (Nat.le_refl _), cell_later h.2.2.2.2.2.2.2.2.2.2.2.2.2.2.2.2.2.2.2.2.2.2.1 hb (Nat.le_refl _), cell_later h.2.2.2.2.2.2.2.2.2.2.2.2.2.2.2.2.2.2.2.2.2.2.2 hb (Nat.le_refl _)⟩

end Go.Proofs.YtbdokdhconhifaaGreatDoor
/- What CopyBytes of lagoonref00 answers: the same bytes in a row of its own. -/
namespace Go.Proofs.YtbdokdhconhifaaGreatDoor
open Go.RowKit
set_option maxRecDepth 8000

theorem Tryz.infoByte : (Tryz.prog.info? 5).map (fun i => (i.zero, i.size, i.bytes)) = some (some (.int .u8 0), 1, 1) := by kernel_rfl

/-- One round of an append of one byte: what is owned, and that old memory stays. -/
theorem app_rel {B : Nat} {w wr w1 : World} {v v' : Value} {xs : List Int} {x : Int} (hBw : B ≤ wr.heap.size) (hown : Owns wr B v xs) (hbel : Below B w wr) {o : Obj}
    (hown' : w1.ownsRow B 5 1 v' (xs.length + 1) (xs.map (Value.int .u8) ++ [.int .u8 x])) (hgrow : (wr.alloc o).grownBy w1 v.ownBlock) :
    Owns w1 B v' (xs ++ [x]) ∧ Below B w w1 ∧ B ≤ w1.heap.size := by
  refine ⟨by simpa [Owns] using hown', ?_, ?_⟩
  · exact ((hbel.alloc hBw o).grown hgrow (by simp; omega) (fun k hk => (hown.lt k hk).1))
  · have := hgrow.size; simp at this; omega

set_option maxHeartbeats 400000 in
theorem copyBytes_any (v : Value) (xs : List Int) (w : World) (h : Sees w v xs) (hreach : xs.length ≤ 70000000000000) :
    Calls Tryz.prog 28 #[v] w fun e w' => ∃ v', e = .returned v' ∧ Owns w' w.heap.size v' xs ∧ Below w.heap.size w w' := by
  obtain ⟨ao, cap, rfl, hlc, hcm, _, h3⟩ := h
  unfold maxLen at hcm
  obtain ⟨i0, hi, hz0, hz1, hz2⟩ := info_parts Tryz.infoByte
  go_enter Tryz.func28, Tryz.ntmps28
  go_wp2
  go_loopw [3, 4] (fun v i wr => ∃ k : Nat, k ≤ xs.length ∧ i = .int .i64 k ∧ Owns wr w.heap.size v (xs.take k) ∧ Below w.heap.size w wr) (fun _ i _ => xs.length - (intOf i).toNat)
  case atStart => exact ⟨0, Nat.zero_le _, rfl, World.ownsRow_nil _ _ _ _, Below.refl _ _⟩
  case round =>
    obtain ⟨k, hk, rfl, hown, hbel⟩ := hrel
    by_cases hlt : k < xs.length
    · rcases h3 with h3 | ⟨b, off, rfl, h3⟩
      · subst h3; simp at hlt
      · have hc := cell_later (h3 k hlt) hbel (Nat.le_refl _)
        have HN : Hid _ := take_next xs k hlt
        have hlen : (xs.take k).length = k := by simp; omega
        have HL : Hid _ := hlen
        clear hlen h3
        generalize xs.getD k 0 = x at *
        generalize xs.take k = ys at *
        have hsz := hbel.size
        go_wp2_with (at_builtin; refine wpList_append_own _ rfl _ _ 58 rfl w.heap.size 5 i0 (.int .u8 0) 1 1 Tryz.underlying58 hi hz0 hz1 hz2 rfl (by decide) _ _ _ rfl (hown.alloc _) ⟨wr.heap.size, 0, none⟩ 1 1 [.int .u8 x] rfl rfl ?c1 ?c2 ?c3 ?c4 ?c5 ?_)
        case c1 =>
          intro j u hj
          match j, hj with
          | 0, hj => simp at hj; subst hj; simp [Addr.add]
        case c2 => intro u hu; simp at hu; subst hu; rfl
        case c3 => have := HL.out; unfold maxLen; omega
        case c4 => have := HL.out; omega
        case c5 => simp; omega
        intro v' w1 hown' hgrow _
        have R := app_rel hsz hown hbel hown' hgrow
        clear hown' hgrow hown hc
        go_wp2
        go_roundw
        case rel => exact ⟨k + 1, by omega, by go_num, by rw [HN.out]; exact R.1, R.2.1⟩
        case measure => simp [intOf]; omega
    · obtain rfl : k = xs.length := by omega
      rw [List.take_length] at hown
      go_wp2
      go_ret
      exact ⟨_, rfl, hown, hbel⟩

theorem made_owns {w : World} {g n : Nat} (h : w.ownsRow g 5 1 (.slice (some ⟨g, 0, none⟩) n n) n (madeCells #[Value.int .u8 0] n).toList) : Owns w g (.slice (some ⟨g, 0, none⟩) (List.replicate n (0 : Int)).length n) (List.replicate n 0) := by
  have e : (madeCells #[Value.int .u8 0] n).toList = (List.replicate n (0 : Int)).map (Value.int .u8) := by
    rw [toList_madeCells_one]; simp
  rw [e] at h
  simpa [Owns] using h

end Go.Proofs.YtbdokdhconhifaaGreatDoor

/- CopyIds and CopyAcl of lagoonref00: the same elements in a row of their own; a row that is owned, seen. -/
namespace Go.Proofs.YtbdokdhconhifaaGreatDoor
open Go.RowKit
set_option maxRecDepth 8000

theorem flat_at {z : Nat} {cs : List (List Value)} (hz : ∀ c ∈ cs, c.length = z) (k j : Nat) (hk : k < cs.length) (hj : j < z) : cs.flatten[k * z + j]? = some (cs[k].getD j (.bool false)) := by
  induction cs generalizing k with
  | nil => simp at hk
  | cons c r ih =>
    have hc := hz c (by simp)
    rw [List.flatten_cons]
    cases k with
    | zero =>
      rw [List.getElem?_append_left (by omega), Nat.zero_mul, Nat.zero_add]
      simp [List.getD_eq_getElem?_getD, hc, hj]
    | succ k =>
      have e : (k + 1) * z + j - c.length = k * z + j := by rw [hc, Nat.succ_mul]; omega
      rw [List.getElem?_append_right (by rw [hc, Nat.succ_mul]; omega), e, ih (fun c hc => hz c (by simp [hc])) k (by simpa using hk)]
      simp

/-- A row that is owned is seen. -/
theorem seesR_own {w : World} {base : Nat} {t : TypeId} {z : Nat} {v : Value} {cs : List (List Value)} (h : w.ownsRow base t z v cs.length cs.flatten) (hz : ∀ c ∈ cs, c.length = z) : SeesR w v z cs := by
  rcases h.2 with ⟨rfl, h0⟩ | ⟨g, cap, cur, rfl, h1, h2, h3, h4, h5, h6⟩
  · have : cs = [] := List.eq_nil_of_length_eq_zero h0
    subst this
    exact SeesR.nil w z
  · refine ⟨_, cap, rfl, h3, h4, fun e => by simp at e, .inr ⟨g, 0, rfl, fun i hi j hj => ?_⟩⟩
    have hlt : i * z + j < cs.length * z := by
      have : (i + 1) * z ≤ cs.length * z := Nat.mul_le_mul_right z hi
      rw [Nat.succ_mul] at this
      omega
    rw [Nat.zero_add, cell_of_row _ _ _ _ _ _ h2, ← flat_at hz i j hi hj, ← h6]
    rw [List.getElem?_take, if_pos hlt]
    simp

theorem addrAdd (b off n : Nat) : (⟨b, off, none⟩ : Addr).add n = ⟨b, off + n, none⟩ := by
  by_cases h : n = 0
  · subst h; simp [Addr.add]
  · simp [Addr.add, h]

theorem ownsRow_kept {w w' : World} {S : Nat → Prop} {base : Nat} {t : TypeId} {z n : Nat} {v : Value} {xs : List Value} (h : w.ownsRow base t z v n xs) (hk : Kept w w' S) (hn : ∀ k, v.ownBlock = some k → ¬ S k) : w'.ownsRow base t z v n xs := by
  refine ⟨h.1, ?_⟩
  rcases h.2 with h | ⟨g, cap, cur, rfl, h1, h2, h3⟩
  · exact .inl h
  · exact .inr ⟨g, cap, cur, rfl, h1, hk.heap h2 (hn g rfl), h3⟩

theorem Tryz.infoId : (Tryz.prog.info? 135).map (fun i => (i.zero, i.size, i.bytes)) = some (some (.agg #[.string ⟨#[]⟩, .string ⟨#[]⟩]), 2, 32) := by kernel_rfl
theorem Tryz.infoEn : (Tryz.prog.info? 140).map (fun i => (i.zero, i.size, i.bytes)) = some (some (.agg #[.int .i8 0, .string ⟨#[]⟩, .string ⟨#[]⟩]), 3, 40) := by kernel_rfl

end Go.Proofs.YtbdokdhconhifaaGreatDoor
