/- What a Reader tells of any bytes without a fault, as numbers of the bytes; and manifest.Read's bytes: one form. No Go function is walked here. -/
import Derived.Test.YtdbphdllibffnaaGreatMrBJ
import Derived.Test.YtdbphdllibffnaaGreatMaHJ
import Derived.Test.YtdbphdllibffnaaGreatMaXJ
namespace Go.Proofs.YtdbphdllibffnaaGreat
open Go.RowKit Go.Shelf
set_option maxRecDepth 8000

theorem be4_numM {xs : List Int} (hb : Byts xs) (hl : xs.length = 4) : be4 (num xs) = xs := by
  match xs, hl with
  | [a, b, c, d], _ =>
    have ha := hb a (by simp)
    have hb' := hb b (by simp)
    have hc := hb c (by simp)
    have hd := hb d (by simp)
    simp only [num, be4, List.foldl_cons, List.foldl_nil]
    have e1 : (((0 * 256 + a) * 256 + b) * 256 + c) * 256 + d = a * 16777216 + b * 65536 + c * 256 + d := by omega
    rw [e1]
    have q1 : (a * 16777216 + b * 65536 + c * 256 + d) / 16777216 = a := by omega
    have q2 : (a * 16777216 + b * 65536 + c * 256 + d) / 65536 % 256 = b := by omega
    have q3 : (a * 16777216 + b * 65536 + c * 256 + d) / 256 % 256 = c := by omega
    have q4 : (a * 16777216 + b * 65536 + c * 256 + d) % 256 = d := by omega
    rw [q1, q2, q3, q4]

theorem num_fromM (ys : List Int) : ∀ A : Int, ys.foldl (fun a x => a * 256 + x) A = A * 256 ^ ys.length + num ys := by
  induction ys with
  | nil => intro A; simp [num]
  | cons y ys ih =>
    intro A
    have h1 := ih (A * 256 + y)
    have h2 := ih (0 * 256 + y)
    have e : num (y :: ys) = ys.foldl (fun a x => a * 256 + x) (0 * 256 + y) := rfl
    rw [List.foldl_cons, h1, e, h2, List.length_cons, Int.pow_succ, Int.add_mul, Int.add_mul, Int.mul_assoc, Int.mul_comm 256]
    omega
theorem num_appendM (xs ys : List Int) : num (xs ++ ys) = num xs * 256 ^ ys.length + num ys := by
  have : num (xs ++ ys) = ys.foldl (fun a x => a * 256 + x) (num xs) := by unfold num; rw [List.foldl_append]
  rw [this, num_fromM]

theorem num4_bdM {xs : List Int} (hb : Byts xs) (hl : xs.length = 4) : 0 ≤ num xs ∧ num xs < 4294967296 := by
  have := num_bd xs hb 4 (by omega)
  rw [List.take_of_length_le (by omega)] at this
  have h4 : (256 : Int) ^ 4 = 4294967296 := by decide
  rw [h4] at this
  exact this

theorem num8_bdM {xs : List Int} (hb : Byts xs) (hl : xs.length = 8) : 0 ≤ num xs ∧ num xs < 18446744073709551616 := by
  have := num_bd xs hb 8 (by omega)
  rw [List.take_of_length_le (by omega)] at this
  have h4 : (256 : Int) ^ 8 = 18446744073709551616 := by decide
  rw [h4] at this
  exact this

theorem be8_numM {xs : List Int} (hb : Byts xs) (hl : xs.length = 8) : be8 (num xs) = xs := by
  have e : xs = xs.take 4 ++ xs.drop 4 := (List.take_append_drop 4 xs).symm
  have l1 : (xs.take 4).length = 4 := by simp; omega
  have l2 : (xs.drop 4).length = 4 := by simp; omega
  have b1 := num4_bdM (hb.take 4) l1
  have b2 := num4_bdM (hb.drop 4) l2
  have h4 : (256 : Int) ^ 4 = 4294967296 := by decide
  have en : num xs = num (xs.take 4) * 4294967296 + num (xs.drop 4) := by
    conv => lhs; rw [e]
    rw [num_appendM, l2, h4]
  unfold be8
  have q1 : num xs / 4294967296 = num (xs.take 4) := by omega
  have q2 : num xs % 4294967296 = num (xs.drop 4) := by omega
  rw [q1, q2, be4_numM (hb.take 4) l1, be4_numM (hb.drop 4) l2, List.take_append_drop]

theorem up_wrap (n : Int) (h0 : 0 ≤ n) (h1 : n < 18446744073709551616) : up64 (wrap64 n) = n := by unfold up64 wrap64; omega
theorem wrap_bd (n : Int) : -9223372036854775808 ≤ wrap64 n ∧ wrap64 n ≤ 9223372036854775807 := by unfold wrap64; omega

theorem rdNum_ok {z : Nat} {bs : List Int} {f : Int} (h : (rdNum z bs f).fault = 0) : f = 0 ∧ z ≤ bs.length ∧ (rdNum z bs f).out = num (bs.take z) ∧ (rdNum z bs f).rest = bs.drop z := by
  unfold rdNum at h ⊢
  by_cases h1 : f ≠ 0
  · rw [if_pos h1] at h; exact absurd h h1
  · rw [if_neg h1] at h ⊢
    by_cases h2 : bs.length < z
    · rw [if_pos h2] at h; exact absurd h (by simp)
    · rw [if_neg h2]
      exact ⟨by omega, by omega, rfl, rfl⟩

theorem stN_ok {z : Nat} {bs : List Int} {f : Int} : ∀ k, (stN z bs f k).2 = 0 → f = 0 ∧ k * z ≤ bs.length ∧ (stN z bs f k).1 = bs.drop (k * z) ∧ ∀ j, j < k → ouN z bs f j = num ((bs.drop (j * z)).take z)
  | 0, h => ⟨h, by omega, by simp [stN], fun j hj => by omega⟩
  | k + 1, h => by
    have h' : (rdNum z (stN z bs f k).1 (stN z bs f k).2).fault = 0 := h
    obtain ⟨a1, a2, a3, a4⟩ := rdNum_ok h'
    obtain ⟨b1, b2, b3, b4⟩ := stN_ok k a1
    rw [b3, List.length_drop] at a2
    have e : (k + 1) * z = k * z + z := by rw [Nat.add_mul, Nat.one_mul]
    refine ⟨b1, by omega, ?_, fun j hj => ?_⟩
    · show (rdNum z (stN z bs f k).1 (stN z bs f k).2).rest = _
      rw [a4, b3, List.drop_drop, e]
    · by_cases hj' : j < k
      · exact b4 j hj'
      · obtain rfl : j = k := by omega
        show (rdNum z (stN z bs f j).1 (stN z bs f j).2).out = _
        rw [a3, b3]

theorem num_bdz (z : Nat) {bs : List Int} (f : Int) (hb : Byts bs) (k : Nat) : 0 ≤ ouN z bs f k ∧ ouN z bs f k < 256 ^ z := rdNum_bd z _ _ (stN_byts z f hb k)

theorem numD_fits {bs : List Int} (f : Int) (hb : Byts bs) : (numD bs f).Fits := by
  have h4 : (256 : Int) ^ 4 = 4294967296 := by decide
  have a0 := num_bdz 4 f hb 0
  have a1 := num_bdz 4 f hb 1
  have a2 := num_bdz 4 f hb 2
  rw [h4] at a0 a1 a2
  have a3 := wrap_bd (ouN 8 (stN 4 bs f 3).1 (stN 4 bs f 3).2 0)
  have a4 := wrap_bd (ouN 8 (stN 4 bs f 3).1 (stN 4 bs f 3).2 1)
  exact ⟨a0.1, a0.2, a1.1, a1.2, a2.1, a2.2, a3.1, a3.2, a4.1, a4.2⟩

theorem cut_on (bs : List Int) (i n : Nat) : bs.drop i = (bs.drop i).take n ++ bs.drop (i + n) := by
  rw [← List.drop_drop]
  exact (List.take_append_drop n (bs.drop i)).symm

theorem len_cut (bs : List Int) (i n : Nat) (h : i + n ≤ bs.length) : ((bs.drop i).take n).length = n := by simp; omega

/-- A Reader that comes to the end without a fault has read the numbers' bytes and no more. -/
theorem numS_form {bs : List Int} {f : Int} (hb : Byts bs) (h : (numS bs f).2 = 0) (h' : (numS bs f).1 = []) : f = 0 ∧ bs.length = 28 ∧ bs = be4 (numD bs f).boot ++ (be4 (numD bs f).acc ++ (be4 (numD bs f).cur ++ (be8 (up64 (numD bs f).snap) ++ be8 (up64 (numD bs f).log)))) := by
  obtain ⟨a1, a2, a3, a4⟩ := stN_ok 2 h
  obtain ⟨b1, b2, b3, b4⟩ := stN_ok 3 a1
  have e3 : (numS bs f).1 = (stN 4 bs f 3).1.drop 16 := a3
  rw [h', b3, List.drop_drop] at e3
  rw [b3, List.length_drop] at a2
  have hl : bs.length = 28 := by
    have := congrArg List.length e3
    rw [List.length_drop] at this
    simp only [List.length_nil] at this
    omega
  refine ⟨b1, hl, ?_⟩
  have o0 : (numD bs f).boot = num ((bs.drop 0).take 4) := b4 0 (by omega)
  have o1 : (numD bs f).acc = num ((bs.drop 4).take 4) := b4 1 (by omega)
  have o2 : (numD bs f).cur = num ((bs.drop 8).take 4) := b4 2 (by omega)
  have o3 : (numD bs f).snap = wrap64 (num ((bs.drop 12).take 8)) := by
    show wrap64 _ = _
    rw [a4 0 (by omega), b3]; simp
  have o4 : (numD bs f).log = wrap64 (num ((bs.drop 20).take 8)) := by
    show wrap64 _ = _
    rw [a4 1 (by omega), b3, List.drop_drop]
  have n3 := num8_bdM ((hb.drop 12).take 8) (len_cut bs 12 8 (by omega))
  have n4 := num8_bdM ((hb.drop 20).take 8) (len_cut bs 20 8 (by omega))
  rw [o0, o1, o2, o3, o4, up_wrap _ n3.1 n3.2, up_wrap _ n4.1 n4.2, be4_numM ((hb.drop 0).take 4) (len_cut bs 0 4 (by omega)), be4_numM ((hb.drop 4).take 4) (len_cut bs 4 4 (by omega)), be4_numM ((hb.drop 8).take 4) (len_cut bs 8 4 (by omega)), be8_numM ((hb.drop 12).take 8) (len_cut bs 12 8 (by omega)), be8_numM ((hb.drop 20).take 8) (len_cut bs 20 8 (by omega))]
  have c0 := cut_on bs 0 4
  have c1 := cut_on bs 4 4
  have c2 := cut_on bs 8 4
  have c3 := cut_on bs 12 8
  have c4 : bs.drop 20 = (bs.drop 20).take 8 := (List.take_of_length_le (by rw [List.length_drop]; omega)).symm
  rw [← c4, ← c3, ← c2, ← c1, ← c0, List.drop_zero]

/-- A frame that is the whole of the bytes. -/
theorem body_whole (xs : List Int) (h0 : bodyLen xs ≠ 0) (h9 : bodyLen xs + 9 = xs.length) : xs = frameL ((xs.drop 8).take (bodyLen xs)) := by
  have hb : bodyLen xs = (num (xs.take 4)).toNat ∧ xs.getD (8 + (num (xs.take 4)).toNat) 0 = 66 ∧ xs.take 8 = headL ((xs.drop 8).take (num (xs.take 4)).toNat) := by
    unfold bodyLen at h0 ⊢
    by_cases c1 : xs.length < 9
    · rw [if_pos c1] at h0; exact absurd rfl h0
    · rw [if_neg c1] at h0 ⊢
      simp only at h0 ⊢
      by_cases c2 : num (xs.take 4) > (xs.length : Int) - 9 ∨ isSz (num (xs.take 4)) = false
      · rw [if_pos c2] at h0; exact absurd rfl h0
      · rw [if_neg c2] at h0 ⊢
        by_cases c3 : xs.getD (8 + (num (xs.take 4)).toNat) 0 ≠ 66 ∨ xs.take 8 ≠ headL ((xs.drop 8).take (num (xs.take 4)).toNat)
        · rw [if_pos c3] at h0; exact absurd rfl h0
        · rw [if_neg c3]
          exact ⟨rfl, Classical.byContradiction fun h => c3 (.inl h), Classical.byContradiction fun h => c3 (.inr h)⟩
  obtain ⟨e1, e2, e3⟩ := hb
  rw [← e1] at e2 e3
  unfold frameL
  rw [← e3]
  have t1 : (xs.drop 8).drop (bodyLen xs) = [66] := by
    rw [List.drop_drop]
    have hlt : 8 + bodyLen xs < xs.length := by omega
    rw [List.drop_eq_getElem_cons hlt, List.drop_of_length_le (by omega)]
    rw [List.getD_eq_getElem?_getD, List.getElem?_eq_getElem hlt] at e2
    simpa using e2
  conv => lhs; rw [← List.take_append_drop 8 xs, ← List.take_append_drop (bodyLen xs) (xs.drop 8), t1]

/-- The manifest whose numbers stand where they must. -/
def mOf (xs : List Int) : MaD := numD ((xs.drop 9).take 28) 0
/-- Are the bytes those of a manifest? -/
def isM (xs : List Int) : Bool := decide (xs.length = 38) && (mayM (mOf xs) && decide (maF (mOf xs) = xs))
/-- What Read answers. -/
def rdV (xs : List Int) : Value := if isM xs = true then .tuple #[(mOf xs).val, .int .i64 0] else .tuple #[zeroM, .int .i64 110]

theorem isM_iff (xs : List Int) : isM xs = true ↔ xs.length = 38 ∧ mayM (mOf xs) = true ∧ maF (mOf xs) = xs := by
  unfold isM
  simp

theorem i8_one {x : Int} (h0 : 0 ≤ x) (h1 : x ≤ 255) (h : IntKind.i8.wrap x = 1) : x = 1 := by
  have e : IntKind.i8.wrap x = if 128 ≤ x % 256 then x % 256 - 256 else x % 256 := by simp [IntKind.wrap, IntKind.bits, IntKind.signed]
  rw [e] at h
  split at h <;> omega

/-- The bytes of a body that Read takes are those of a manifest. -/
theorem body_man (xs : List Int) (hb : Byts xs) (h0 : bodyLen xs ≠ 0) (h9 : bodyLen xs + 9 = xs.length) (ys : List Int) (hy : ys = (xs.drop 8).take (bodyLen xs)) (h1 : IntKind.i8.wrap (rdNum 1 ys 0).out = 1)
    (hS : (numS (rdNum 1 ys 0).rest (rdNum 1 ys 0).fault).2 = 0) (hR : (numS (rdNum 1 ys 0).rest (rdNum 1 ys 0).fault).1 = []) (hm : mayM (numD (rdNum 1 ys 0).rest (rdNum 1 ys 0).fault) = true) : isM xs = true := by
  have hw := body_whole xs h0 h9
  rw [← hy] at hw
  have hyb : Byts ys := by rw [hy]; exact (hb.drop 8).take _
  have hrb := rdNum_byts 1 0 hyb
  obtain ⟨f0, hl, hf⟩ := numS_form hrb hS hR
  obtain ⟨_, g1, g2, g3⟩ := rdNum_ok f0
  have hlen : ys.length = 29 := by rw [g3, List.length_drop] at hl; omega
  have hn := rdNum_bd 1 ys 0 hyb
  have h256 : (256 : Int) ^ 1 = 256 := by decide
  rw [h256] at hn
  have hx := i8_one hn.1 (by omega) h1
  have hy1 : ys = [1] ++ (rdNum 1 ys 0).rest := by
    rw [g3]
    match ys, hlen with
    | a :: t, _ =>
      rw [g2] at hx
      simp [num] at hx
      simp [hx]
  rw [f0] at hm hf
  have hxs : xs.length = 38 := by rw [hw, frameL_len]; omega
  have hcut : (xs.drop 9).take 28 = (rdNum 1 ys 0).rest := by
    conv => lhs; rw [hw, hy1]
    unfold frameL
    have : (headL ([1] ++ (rdNum 1 ys 0).rest) ++ ([1] ++ (rdNum 1 ys 0).rest ++ [66])).drop 9 = (rdNum 1 ys 0).rest ++ [66] := by
      rw [show (9 : Nat) = 8 + 1 from rfl, ← List.drop_drop, dropF (headL_len _)]
      rfl
    rw [this, takeF hl]
  rw [isM_iff]
  have hmo : mOf xs = numD (rdNum 1 ys 0).rest 0 := by unfold mOf; rw [hcut]
  refine ⟨hxs, by rw [hmo]; exact hm, ?_⟩
  rw [hmo]
  have hB : maB (numD (rdNum 1 ys 0).rest 0) = ys := by
    conv => rhs; rw [hy1, hf]
    rfl
  show frameL (maB (numD (rdNum 1 ys 0).rest 0)) = xs
  rw [hB]
  exact hw.symm
end Go.Proofs.YtdbphdllibffnaaGreat

/- What a script of layer 11 does to the program's disk and to the document's, as data: Put on both; files whose bytes are bytes. No Go function is walked here. -/
namespace Go.Proofs.YtdbphdllibffnaaGreat
open Go.RowKit Go.Shelf
set_option maxRecDepth 8000

/-- Each file holds bytes. -/
def FB (fs : List FiD) : Prop := ∀ f ∈ fs, Byts f.bytes

theorem FB.set {fs : List FiD} (h : FB fs) (i : Nat) (f : FiD) (hf : Byts f.bytes) : FB (fs.set i f) := fun g hg => by
  rcases List.mem_or_eq_of_mem_set hg with e | e
  · exact h g e
  · rw [e]; exact hf

theorem FB.upd {fs : List FiD} (h : FB fs) (n : ByteArray) (k : FiD → FiD) (hk : ∀ f ∈ fs, Byts (k f).bytes) : FB (updF fs n k) := by
  unfold updF
  cases hf : fs[pl fs n]? with
  | none => exact h
  | some f => exact h.set _ _ (hk f (List.mem_of_getElem? hf))

theorem FB.ins {fs : List FiD} (h : FB fs) (f : FiD) (hf : Byts f.bytes) : FB (insF fs f) := fun g hg => by
  rcases insM_mem hg with e | e
  · rw [e]; exact hf
  · exact h g e

theorem FB.app {fs : List FiD} (h : FB fs) (n : ByteArray) (ys : List Int) (hy : Byts ys) : FB (appF fs n ys) := by
  unfold appF
  split
  · exact h.upd n _ (fun f hf => (h f hf).append hy)
  · exact h.ins _ hy

theorem FB.erase {fs : List FiD} (h : FB fs) (i : Nat) : FB (fs.eraseIdx i) := fun g hg => h g (List.mem_of_mem_eraseIdx hg)

theorem FB.ren {fs : List FiD} (h : FB fs) (a b : ByteArray) : FB (renF fs a b) := by
  unfold renF
  cases hf : fs[pl fs a]? with
  | none => exact h
  | some f =>
    unfold movF
    exact ((h.erase _).erase _).ins _ (h f (List.mem_of_getElem? hf))

theorem FB.loss {fs : List FiD} (h : FB fs) (ks : List Int) : FB (lossF fs ks) := fun g hg => by
  unfold lossF at hg
  obtain ⟨i, hi, rfl⟩ := List.mem_iff_getElem.1 hg
  rw [List.getElem_mapIdx]
  unfold lossAt
  exact (h _ (List.getElem_mem _)).take _

theorem FB.act {D : DkD} (h : FB D.files) (e : Int) (fs : List FiD) (hf : FB fs) : FB (D.act e fs).2.files := by
  unfold DkD.act
  split
  · split
    · show FB D.off.files
      unfold DkD.off
      split <;> exact h
    · exact hf
  · exact h

/-- What Read answers, in two parts. -/
def rdM (xs : List Int) : MaD := if isM xs = true then mOf xs else ⟨0, 0, 0, 0, 0⟩
def rdE (xs : List Int) : Int := if isM xs = true then 0 else 110
theorem rdV_eq (xs : List Int) : rdV xs = .tuple #[(rdM xs).val, .int .i64 (rdE xs)] := by
  unfold rdV rdM rdE
  split <;> rfl

/-- What Get answers, where the file's opening answers E. -/
def gtT (fs : List FiD) (E : Int) : MaD × Bool × Int :=
  if E = 20 then (⟨0, 0, 0, 0, 0⟩, false, 0) else if E = 0 then (match fs[pl fs manN]? with | some f => (rdM f.bytes, rdE f.bytes == 0, rdE f.bytes) | none => (⟨0, 0, 0, 0, 0⟩, false, 0)) else (⟨0, 0, 0, 0, 0⟩, false, E)

/-- The calls that a Put makes. -/
def putO (bs : List Int) (k : Nat) : OpK := if k = 0 then ⟨1, newN, newN, none, 0, bs, 0, none, 0, []⟩ else if k = 1 then ⟨2, newN, newN, none, 0, bs, 0, none, 0, []⟩ else ⟨4, newN, manN, none, 0, bs, 0, none, 0, []⟩
def remO : OpK := ⟨5, newN, newN, none, 0, [], 0, none, 0, []⟩

theorem stepK_act (bs : List Int) (k : Nat) (D : DkD) : stepK bs k D = actK D (putO bs k) := by
  unfold stepK putO
  split
  · rfl
  · split <;> rfl
theorem remK_act (D : DkD) : remK D = actK D remO := rfl

def thenR (r : Int × RD) (f : RD → Int × RD) : Int × RD := if r.1 = 0 then f r.2 else r
def tailR (bs : List Int) : Nat → RD → Int × RD
  | 0, R => (0, R)
  | j + 1, R => thenR (wantK R (putO bs (2 - j))) (tailR bs j)

/-- Put, of the program's disk and of the document's. -/
def putD (m : MaD) (D : DkD) : Int × DkD := if mayM m = true then (if hasF D.files newN = true then tail4 (maF m) D else tailK (maF m) 3 D) else (110, D)
def putR (m : MaD) (R : RD) : Int × RD := if mayM m = true then (if hasF R.files newN = true then thenR (wantK R remO) (tailR (maF m) 3) else tailR (maF m) 3 R) else (110, R)

/-- Both alike, with all that is carried along; k writes more at the most. -/
structure PlayP (D D' : DkD) (R' : RD) (e e' : Int) (k : Nat) (more : Int) : Prop where
  err : e' = e
  play : Play D' R'
  calm : Calm D'
  ok : DkOk D'
  fb : FB D'.files
  more : R'.more ≤ more
  writes : D'.writes ≤ D.writes + k

theorem actK_fb {D : DkD} (h : FB D.files) (o : OpK) (hp : Byts o.p) : FB (actK D o).2.files := by
  unfold actK
  split
  · exact h.act _ _ (h.app _ _ hp)
  · split
    · exact h.act _ _ (h.upd _ _ (fun f hf => h f hf))
    · split
      · exact h.act _ _ (h.upd _ _ (fun f hf => (h f hf).take _))
      · split
        · exact h.act _ _ (h.ren _ _)
        · split
          · exact h.act _ _ (h.erase _)
          · exact h

theorem playP_want {D : DkD} {R : RD} (h : Play D R) (hc : Calm D) (ok : DkOk D) (fb : FB D.files) (o : OpK) (hp : Byts o.p) : PlayP D (actK D o).2 (wantK R o).2 (actK D o).1 (wantK R o).1 1 R.more := by
  obtain ⟨a, b, c⟩ := play_want h hc o
  exact ⟨a, b, c, actK_ok ok o, actK_fb fb o hp, wantK_more R o, actK_writes D o⟩

theorem playP_tail (bs : List Int) (hb : Byts bs) : ∀ (j : Nat) {D : DkD} {R : RD}, Play D R → Calm D → DkOk D → FB D.files → PlayP D (tailK bs j D).2 (tailR bs j R).2 (tailK bs j D).1 (tailR bs j R).1 j R.more
  | 0, D, R, h, hc, ok, fb => ⟨rfl, h, hc, ok, fb, Int.le_refl _, by show D.writes ≤ _; omega⟩
  | j + 1, D, R, h, hc, ok, fb => by
    have hpp : Byts (putO bs (2 - j)).p := by unfold putO; split; exact hb; split <;> exact hb
    have a := playP_want h hc ok fb (putO bs (2 - j)) hpp
    show PlayP D (thenK (stepK bs (2 - j) D) (tailK bs j)).2 (thenR (wantK R (putO bs (2 - j))) (tailR bs j)).2 (thenK (stepK bs (2 - j) D) (tailK bs j)).1 (thenR (wantK R (putO bs (2 - j))) (tailR bs j)).1 (j + 1) R.more
    rw [stepK_act]
    unfold thenK thenR
    by_cases e : (actK D (putO bs (2 - j))).1 = 0
    · rw [if_pos e, if_pos (a.err.trans e)]
      have b := playP_tail bs hb j a.play a.calm a.ok a.fb
      exact ⟨b.err, b.play, b.calm, b.ok, b.fb, Int.le_trans b.more a.more, by have := b.writes; have := a.writes; omega⟩
    · rw [if_neg e, if_neg (fun h => e (a.err.symm.trans h))]
      exact ⟨a.err, a.play, a.calm, a.ok, a.fb, a.more, by have := a.writes; omega⟩

theorem playP_put (m : MaD) (hm : m.Fits) {D : DkD} {R : RD} (h : Play D R) (hc : Calm D) (ok : DkOk D) (fb : FB D.files) : PlayP D (putD m D).2 (putR m R).2 (putD m D).1 (putR m R).1 4 R.more := by
  unfold putD putR
  have hb := maF_byts m hm
  by_cases hy : mayM m = true
  · rw [if_pos hy, if_pos hy, h.files]
    by_cases hn : hasF D.files newN = true
    · rw [if_pos hn, if_pos hn]
      unfold tail4
      rw [remK_act]
      have a := playP_want h hc ok fb remO (fun x hx => by simp [remO] at hx)
      unfold thenK thenR
      by_cases e : (actK D remO).1 = 0
      · rw [if_pos e, if_pos (a.err.trans e)]
        have b := playP_tail (maF m) hb 3 a.play a.calm a.ok a.fb
        exact ⟨b.err, b.play, b.calm, b.ok, b.fb, Int.le_trans b.more a.more, by have := b.writes; have := a.writes; omega⟩
      · rw [if_neg e, if_neg (fun h => e (a.err.symm.trans h))]
        exact ⟨a.err, a.play, a.calm, a.ok, a.fb, a.more, by have := a.writes; omega⟩
    · rw [if_neg hn, if_neg hn]
      have b := playP_tail (maF m) hb 3 h hc ok fb
      exact ⟨b.err, b.play, b.calm, b.ok, b.fb, b.more, by have := b.writes; omega⟩
  · rw [if_neg hy, if_neg hy]
    exact ⟨rfl, h, hc, ok, fb, Int.le_refl _, by show D.writes ≤ _; omega⟩
end Go.Proofs.YtdbphdllibffnaaGreat
