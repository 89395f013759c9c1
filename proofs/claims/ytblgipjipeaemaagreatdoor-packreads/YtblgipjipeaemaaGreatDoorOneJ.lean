/- One form: what a Reader's call tells without a fault, laid again, are the bytes that were read; and put and get of the statements for all kinds of calls in one word each. -/
import Derived.Test.YtblgipjipeaemaaGreatDoorGetJ
import Derived.Test.YtblgipjipeaemaaGreatDoorPut2J
namespace Go.Proofs.YtblgipjipeaemaaGreatDoor
open Go.RowKit
set_option maxRecDepth 8000

theorem be4_num {xs : List Int} (hb : Byts xs) (hl : xs.length = 4) : be4 (num xs) = xs := by
  match xs, hl with
  | [a, b, c, d], _ =>
    have ha := hb a (by simp)
    have hb' := hb b (by simp)
    have hc := hb c (by simp)
    have hd := hb d (by simp)
    simp only [num, be4, List.foldl_cons, List.foldl_nil]
    have e1 : (((0 * 256 + a) * 256 + b) * 256 + c) * 256 + d = a * 16777216 + b * 65536 + c * 256 + d := by omega
    rw [e1]
    have q1 : (a * 16777216 + b * 65536 + c * 256 + d) / 16777216 = a := by omega
    have q2 : (a * 16777216 + b * 65536 + c * 256 + d) / 65536 % 256 = b := by omega
    have q3 : (a * 16777216 + b * 65536 + c * 256 + d) / 256 % 256 = c := by omega
    have q4 : (a * 16777216 + b * 65536 + c * 256 + d) % 256 = d := by omega
    rw [q1, q2, q3, q4]

theorem num_from (ys : List Int) : ∀ A : Int, ys.foldl (fun a x => a * 256 + x) A = A * 256 ^ ys.length + num ys := by
  induction ys with
  | nil => intro A; simp [num]
  | cons y ys ih =>
    intro A
    have h1 := ih (A * 256 + y)
    have h2 := ih (0 * 256 + y)
    have e : num (y :: ys) = ys.foldl (fun a x => a * 256 + x) (0 * 256 + y) := rfl
    rw [List.foldl_cons, h1, e, h2, List.length_cons, Int.pow_succ, Int.add_mul, Int.add_mul, Int.mul_assoc, Int.mul_comm 256]
    omega
theorem num_append (xs ys : List Int) : num (xs ++ ys) = num xs * 256 ^ ys.length + num ys := by
  have : num (xs ++ ys) = ys.foldl (fun a x => a * 256 + x) (num xs) := by unfold num; rw [List.foldl_append]
  rw [this, num_from]

theorem num4_bd {xs : List Int} (hb : Byts xs) (hl : xs.length = 4) : 0 ≤ num xs ∧ num xs < 4294967296 := by
  have := num_bd xs hb 4 (by omega)
  rw [List.take_of_length_le (by omega)] at this
  have h4 : (256 : Int) ^ 4 = 4294967296 := by decide
  rw [h4] at this
  exact this

theorem num8_bd {xs : List Int} (hb : Byts xs) (hl : xs.length = 8) : 0 ≤ num xs ∧ num xs < 18446744073709551616 := by
  have := num_bd xs hb 8 (by omega)
  rw [List.take_of_length_le (by omega)] at this
  have h4 : (256 : Int) ^ 8 = 18446744073709551616 := by decide
  rw [h4] at this
  exact this

theorem be8_num {xs : List Int} (hb : Byts xs) (hl : xs.length = 8) : be8 (num xs) = xs := by
  have e : xs = xs.take 4 ++ xs.drop 4 := (List.take_append_drop 4 xs).symm
  have l1 : (xs.take 4).length = 4 := by simp; omega
  have l2 : (xs.drop 4).length = 4 := by simp; omega
  have b1 := num4_bd (hb.take 4) l1
  have b2 := num4_bd (hb.drop 4) l2
  have h4 : (256 : Int) ^ 4 = 4294967296 := by decide
  have en : num xs = num (xs.take 4) * 4294967296 + num (xs.drop 4) := by
    conv => lhs; rw [e]
    rw [num_append, l2, h4]
  unfold be8
  have q1 : num xs / 4294967296 = num (xs.take 4) := by omega
  have q2 : num xs % 4294967296 = num (xs.drop 4) := by omega
  rw [q1, q2, be4_num (hb.take 4) l1, be4_num (hb.drop 4) l2, List.take_append_drop]

theorem txt_str {ys : List Int} (hb : Byts ys) : txt (strOfNums ys) = ys := by
  unfold txt
  rw [strOfNums_data, List.map_map]
  conv => rhs; rw [← List.map_id ys]
  apply List.map_congr_left
  intro y hy
  have := hb y hy
  simp only [Function.comp, id]
  rw [UInt8.toNat_ofNat']
  omega

/-- The bytes of one call's value by the document; kinds 1 to 8 (and 9: raw). -/
def encOf (kind n : Int) (x : Nat) (s : ByteArray) (ys : List Int) : List Int :=
  match kind.toNat with
  | 1 => [b2i (bits .and .i64 n 1 == 1)]
  | 2 => [IntKind.i8.wrap n % 256]
  | 3 => be4 (up32 (wrap32 n))
  | 4 => be4 (n % 4294967296)
  | 5 => be8 (up64 n)
  | 6 => be8 (bitsOf x)
  | 7 => be4 (txt s).length ++ txt s
  | 8 => be4 ys.length ++ ys
  | _ => ys

/-- What a Reader's call tells by the document. -/
structure Ans where
  b : Bool
  n : Int
  x : Nat
  s : ByteArray
  ys : List Int
  st : Rd

def ansOf (kind n : Int) (xs : List Int) (f : Int) : Ans :=
  match kind.toNat with
  | 1 => ⟨(rdBool xs f).out == 1, 0, 0, ⟨#[]⟩, [], rdBool xs f⟩
  | 2 => ⟨false, IntKind.i8.wrap (rdNum 1 xs f).out, 0, ⟨#[]⟩, [], rdNum 1 xs f⟩
  | 3 => ⟨false, down32 (rdNum 4 xs f).out, 0, ⟨#[]⟩, [], rdNum 4 xs f⟩
  | 4 => ⟨false, (rdNum 4 xs f).out, 0, ⟨#[]⟩, [], rdNum 4 xs f⟩
  | 5 => ⟨false, wrap64 (rdNum 8 xs f).out, 0, ⟨#[]⟩, [], rdNum 8 xs f⟩
  | 6 => ⟨false, 0, (rdFloat xs f).out.toNat, ⟨#[]⟩, [], rdFloat xs f⟩
  | 7 => ⟨false, 0, 0, strOfNums (rdBuf n xs f).1, [], (rdBuf n xs f).2⟩
  | 8 => ⟨false, 0, 0, ⟨#[]⟩, (rdBuf n xs f).1, (rdBuf n xs f).2⟩
  | _ => ⟨false, 0, 0, ⟨#[]⟩, (rdRaw n xs f).1, (rdRaw n xs f).2⟩

theorem get_any (kind : Int) (hk0 : 1 ≤ kind) (hk1 : kind ≤ 9) (g : Nat) (v : Value) (xs : List Int) (f on n : Int) (x : Nat) (s : ByteArray) (ao : Option Addr) (l cap : Nat) (w : World) (h : IsR w g v xs f) (hb : Byts xs) :
    Calls Tryz.prog 19 #[.pointer (some ⟨g, 0, none⟩), opv kind on n x s (.slice ao l cap)] w fun e w' =>
      ∃ u, e = .returned (.agg (told (ansOf kind n xs f).b (ansOf kind n xs f).n (ansOf kind n xs f).x (ansOf kind n xs f).s u 0 0)) ∧ Cut w' v u (ansOf kind n xs f).ys ∧ ReadsTo w g v (ansOf kind n xs f).st w' := by
  have hc : kind = 1 ∨ kind = 2 ∨ kind = 3 ∨ kind = 4 ∨ kind = 5 ∨ kind = 6 ∨ kind = 7 ∨ kind = 8 ∨ kind = 9 := by omega
  rcases hc with rfl | rfl | rfl | rfl | rfl | rfl | rfl | rfl | rfl
  · exact (get_bool g v xs f on n x s ao l cap w h hb).mono fun e w' q => ⟨_, q.1, cut_nil _ _, q.2⟩
  · exact (get_int8 g v xs f on n x s ao l cap w h hb).mono fun e w' q => ⟨_, q.1, cut_nil _ _, q.2⟩
  · exact (get_int32 g v xs f on n x s ao l cap w h hb).mono fun e w' q => ⟨_, q.1, cut_nil _ _, q.2⟩
  · exact (get_uint32 g v xs f on n x s ao l cap w h hb).mono fun e w' q => ⟨_, q.1, cut_nil _ _, q.2⟩
  · exact (get_int64 g v xs f on n x s ao l cap w h hb).mono fun e w' q => ⟨_, q.1, cut_nil _ _, q.2⟩
  · exact (get_float g v xs f on n x s ao l cap w h hb).mono fun e w' q => ⟨_, q.1, cut_nil _ _, q.2⟩
  · exact (get_text g v xs f on n x s ao l cap w h hb).mono fun e w' q => ⟨_, q.1, cut_nil _ _, q.2⟩
  · exact get_buffer g v xs f on n x s ao l cap w h hb
  · exact get_raw g v xs f on n x s ao l cap w h hb

/-- What a call's value must be for put. -/
structure Fits (n : Int) (x : Nat) (s : ByteArray) (ys : List Int) : Prop where
  n0 : -9223372036854775808 ≤ n
  n1 : n ≤ 9223372036854775807
  x1 : x < 18446744073709551616
  s1 : s.size ≤ 2147483647
  y1 : ys.length ≤ 2147483647

section
variable {xs : List Int}

/-! The readings without a fault. -/
theorem rdNum_ok {n : Nat} (h : (rdNum n xs 0).fault = 0) : n ≤ xs.length ∧ rdNum n xs 0 = ⟨num (xs.take n), xs.drop n, 0⟩ := by
  unfold rdNum at h ⊢
  rw [if_neg (by simp)] at h ⊢
  by_cases hl : xs.length < n
  · rw [if_pos hl] at h; simp at h
  · rw [if_neg hl]; exact ⟨by omega, rfl⟩

theorem rdBool_ok (h : (rdBool xs 0).fault = 0) : 1 ≤ xs.length ∧ xs.getD 0 0 ≤ 1 ∧ rdBool xs 0 = ⟨xs.getD 0 0, xs.drop 1, 0⟩ := by
  unfold rdBool at h ⊢
  rw [if_neg (by simp)] at h ⊢
  by_cases hl : xs.length < 1
  · rw [if_pos hl] at h; simp at h
  · rw [if_neg hl] at h ⊢
    by_cases hx : 1 < xs.getD 0 0
    · rw [if_pos hx] at h; simp at h
    · rw [if_neg hx]; exact ⟨by omega, by omega, rfl⟩

theorem rdFloat_ok (h : (rdFloat xs 0).fault = 0) : 8 ≤ xs.length ∧ ¬ (9218868437227405312 < (num (xs.take 8)).toNat % 9223372036854775808 ∧ num (xs.take 8) ≠ 9221120237041090560) ∧ rdFloat xs 0 = ⟨num (xs.take 8), xs.drop 8, 0⟩ := by
  unfold rdFloat at h ⊢
  rw [if_neg (by simp)] at h ⊢
  by_cases hl : xs.length < 8
  · rw [if_pos hl] at h; simp at h
  · rw [if_neg hl] at h ⊢
    by_cases hx : 9218868437227405312 < (num (xs.take 8)).toNat % 9223372036854775808 ∧ num (xs.take 8) ≠ 9221120237041090560
    · rw [if_pos hx] at h; simp at h
    · rw [if_neg hx]; exact ⟨by omega, hx, rfl⟩

theorem rdBuf_ok {most : Int} (h : (rdBuf most xs 0).2.fault = 0) : 4 ≤ xs.length ∧ 0 ≤ ahead xs ∧ ahead xs ≤ xs.length - 4 ∧ rdBuf most xs 0 = ((xs.drop 4).take (ahead xs).toNat, ⟨0, (xs.drop 4).drop (ahead xs).toNat, 0⟩) := by
  unfold rdBuf at h ⊢
  rw [if_neg (by simp)] at h ⊢
  by_cases hl : xs.length < 4
  · rw [if_pos hl] at h; simp at h
  · rw [if_neg hl] at h ⊢
    by_cases hx : ahead xs < 0 ∨ most < ahead xs
    · rw [if_pos hx] at h; simp at h
    · rw [if_neg hx] at h ⊢
      by_cases hy : (xs.length : Int) - 4 < ahead xs
      · rw [if_pos hy] at h; simp at h
      · rw [if_neg hy]; exact ⟨by omega, by omega, by omega, rfl⟩

/-- A buffer's bytes are its count's and its own. -/
theorem buf_form (hb : Byts xs) (h4 : 4 ≤ xs.length) (h0 : 0 ≤ ahead xs) (h1 : ahead xs ≤ xs.length - 4) :
    xs = (be4 ((xs.drop 4).take (ahead xs).toNat).length ++ (xs.drop 4).take (ahead xs).toNat) ++ (xs.drop 4).drop (ahead xs).toNat := by
  have l1 : (xs.take 4).length = 4 := by simp; omega
  have b1 := num4_bd (hb.take 4) l1
  have hl : (((xs.drop 4).take (ahead xs).toNat).length : Int) = num (xs.take 4) := by
    have e : ahead xs = num (xs.take 4) := by unfold ahead wrap32 at h0 ⊢; omega
    simp only [List.length_take, List.length_drop]
    omega
  rw [hl, be4_num (hb.take 4) l1, List.append_assoc, List.take_append_drop, List.take_append_drop]

theorem ans_fits (kind n : Int) (hk0 : 1 ≤ kind) (hk1 : kind ≤ 8) (hb : Byts xs) : Fits (if (ansOf kind n xs 0).b then 1 else (ansOf kind n xs 0).n) (ansOf kind n xs 0).x (ansOf kind n xs 0).s (ansOf kind n xs 0).ys := by
  have hbuf : (rdBuf n xs 0).1.length ≤ 2147483647 := by
    unfold rdBuf
    rw [if_neg (by simp)]
    split
    · simp
    · split
      · simp
      · split
        · simp
        · have := wrap32_bd (num (xs.take 4))
          simp only [List.length_take, List.length_drop]
          unfold ahead
          omega
  have h4 : (256 : Int) ^ 4 = 4294967296 := by decide
  have h8 : (256 : Int) ^ 8 = 18446744073709551616 := by decide
  have b4 := rdNum_bd 4 xs 0 hb
  have b8 := rdNum_bd 8 xs 0 hb
  rw [h4] at b4
  rw [h8] at b8
  have hc : kind = 1 ∨ kind = 2 ∨ kind = 3 ∨ kind = 4 ∨ kind = 5 ∨ kind = 6 ∨ kind = 7 ∨ kind = 8 := by omega
  rcases hc with rfl | rfl | rfl | rfl | rfl | rfl | rfl | rfl
  · show Fits (if ((rdBool xs 0).out == 1) then 1 else 0) 0 ⟨#[]⟩ []
    split <;> exact ⟨by omega, by omega, by omega, by decide, by decide⟩
  · show Fits (IntKind.i8.wrap (rdNum 1 xs 0).out) 0 ⟨#[]⟩ []
    have := wrap8_bd (rdNum 1 xs 0).out
    exact ⟨by omega, by omega, by omega, by decide, by decide⟩
  · show Fits (down32 (rdNum 4 xs 0).out) 0 ⟨#[]⟩ []
    have := wrap32_bd (rdNum 4 xs 0).out
    exact ⟨by unfold down32; omega, by unfold down32; omega, by omega, by decide, by decide⟩
  · show Fits (rdNum 4 xs 0).out 0 ⟨#[]⟩ []
    exact ⟨by omega, by omega, by omega, by decide, by decide⟩
  · show Fits (wrap64 (rdNum 8 xs 0).out) 0 ⟨#[]⟩ []
    exact ⟨by unfold wrap64; omega, by unfold wrap64; omega, by omega, by decide, by decide⟩
  · show Fits 0 (rdFloat xs 0).out.toNat ⟨#[]⟩ []
    refine ⟨by omega, by omega, ?_, by decide, by decide⟩
    by_cases hok : (rdFloat xs 0).fault = 0
    · obtain ⟨a1, _, a3⟩ := rdFloat_ok hok
      have := num8_bd (hb.take 8) (by simp; omega)
      rw [a3]
      simp only
      omega
    · have : (rdFloat xs 0).out = 0 := by
        unfold rdFloat at hok ⊢
        rw [if_neg (by simp)] at hok ⊢
        split
        · rfl
        · rename_i q
          rw [if_neg q] at hok
          split
          · rfl
          · rename_i q2
            rw [if_neg q2] at hok
            simp at hok
      rw [this]
      decide
  · show Fits 0 0 (strOfNums (rdBuf n xs 0).1) []
    exact ⟨by omega, by omega, by omega, by rw [strOfNums_size]; exact hbuf, by decide⟩
  · show Fits 0 0 ⟨#[]⟩ (rdBuf n xs 0).1
    exact ⟨by omega, by omega, by omega, by decide, hbuf⟩

theorem rdBuf_byts {most : Int} (hb : Byts xs) : Byts (rdBuf most xs 0).1 := by
  unfold rdBuf
  rw [if_neg (by simp)]
  have hn : Byts ([] : List Int) := fun x hx => by simp at hx
  split
  · exact hn
  · split
    · exact hn
    · split
      · exact hn
      · exact (hb.drop 4).take _

theorem take1 (h : 1 ≤ xs.length) : xs.take 1 = [xs.getD 0 0] := by
  match xs, h with
  | x :: _, _ => rfl

theorem ans_form (kind n : Int) (hk0 : 1 ≤ kind) (hk1 : kind ≤ 8) (hb : Byts xs) (hok : (ansOf kind n xs 0).st.fault = 0) :
    xs = encOf kind (if (ansOf kind n xs 0).b then 1 else (ansOf kind n xs 0).n) (ansOf kind n xs 0).x (ansOf kind n xs 0).s (ansOf kind n xs 0).ys ++ (ansOf kind n xs 0).st.rest := by
  have hc : kind = 1 ∨ kind = 2 ∨ kind = 3 ∨ kind = 4 ∨ kind = 5 ∨ kind = 6 ∨ kind = 7 ∨ kind = 8 := by omega
  rcases hc with rfl | rfl | rfl | rfl | rfl | rfl | rfl | rfl
  · have hok' : (rdBool xs 0).fault = 0 := hok
    show xs = [b2i (bits .and .i64 (if ((rdBool xs 0).out == 1) then 1 else 0) 1 == 1)] ++ (rdBool xs 0).rest
    obtain ⟨a1, a2, a3⟩ := rdBool_ok hok'
    rw [a3]
    simp only
    have hx := hb.nth 0
    have : xs.getD 0 0 = 0 ∨ xs.getD 0 0 = 1 := by omega
    conv => lhs; rw [← List.take_append_drop 1 xs, take1 a1]
    have n0 : bits .and .i64 0 1 = 0 := by decide
    have n1 : bits .and .i64 1 1 = 1 := by decide
    rcases this with e | e
    · rw [e]
      simp [b2i, n0]
    · rw [e]
      simp [b2i, n1]
  · have hok' : (rdNum 1 xs 0).fault = 0 := hok
    show xs = [IntKind.i8.wrap (IntKind.i8.wrap (rdNum 1 xs 0).out) % 256] ++ (rdNum 1 xs 0).rest
    obtain ⟨a1, a3⟩ := rdNum_ok hok'
    rw [a3]
    simp only
    have hx := hb.nth 0
    conv => lhs; rw [← List.take_append_drop 1 xs]
    rw [take1 a1]
    have e : num [xs.getD 0 0] = xs.getD 0 0 := by simp [num]
    rw [e]
    have : IntKind.i8.wrap (IntKind.i8.wrap (xs.getD 0 0)) % 256 = xs.getD 0 0 := by
      rw [wrap8_is (IntKind.i8.wrap _), wrap8_is]
      split <;> split <;> omega
    rw [this]
  · have hok' : (rdNum 4 xs 0).fault = 0 := hok
    show xs = be4 (up32 (wrap32 (down32 (rdNum 4 xs 0).out))) ++ (rdNum 4 xs 0).rest
    obtain ⟨a1, a3⟩ := rdNum_ok hok'
    rw [a3]
    simp only
    have l4 : (xs.take 4).length = 4 := by simp; omega
    have b4 := num4_bd (hb.take 4) l4
    have : up32 (wrap32 (down32 (num (xs.take 4)))) = num (xs.take 4) := by unfold up32 down32 wrap32; omega
    rw [this, be4_num (hb.take 4) l4, List.take_append_drop]
  · have hok' : (rdNum 4 xs 0).fault = 0 := hok
    show xs = be4 ((rdNum 4 xs 0).out % 4294967296) ++ (rdNum 4 xs 0).rest
    obtain ⟨a1, a3⟩ := rdNum_ok hok'
    rw [a3]
    simp only
    have l4 : (xs.take 4).length = 4 := by simp; omega
    have b4 := num4_bd (hb.take 4) l4
    have : num (xs.take 4) % 4294967296 = num (xs.take 4) := by omega
    rw [this, be4_num (hb.take 4) l4, List.take_append_drop]
  · have hok' : (rdNum 8 xs 0).fault = 0 := hok
    show xs = be8 (up64 (wrap64 (rdNum 8 xs 0).out)) ++ (rdNum 8 xs 0).rest
    obtain ⟨a1, a3⟩ := rdNum_ok hok'
    rw [a3]
    simp only
    have l4 : (xs.take 8).length = 8 := by simp; omega
    have b4 := num8_bd (hb.take 8) l4
    have : up64 (wrap64 (num (xs.take 8))) = num (xs.take 8) := by unfold up64 wrap64; omega
    rw [this, be8_num (hb.take 8) l4, List.take_append_drop]
  · have hok' : (rdFloat xs 0).fault = 0 := hok
    show xs = be8 (bitsOf (rdFloat xs 0).out.toNat) ++ (rdFloat xs 0).rest
    obtain ⟨a1, a2, a3⟩ := rdFloat_ok hok'
    rw [a3]
    simp only
    have l4 : (xs.take 8).length = 8 := by simp; omega
    have b4 := num8_bd (hb.take 8) l4
    have : (bitsOf (num (xs.take 8)).toNat : Int) = num (xs.take 8) := by
      unfold bitsOf
      split
      · rename_i q
        have : num (xs.take 8) = 9221120237041090560 := by
          apply Classical.byContradiction
          intro q2
          exact a2 ⟨q, q2⟩
        rw [this]
        rfl
      · omega
    rw [this, be8_num (hb.take 8) l4, List.take_append_drop]
  · have hok' : (rdBuf n xs 0).2.fault = 0 := hok
    show xs = (be4 (txt (strOfNums (rdBuf n xs 0).1)).length ++ txt (strOfNums (rdBuf n xs 0).1)) ++ (rdBuf n xs 0).2.rest
    rw [txt_str (rdBuf_byts hb)]
    obtain ⟨a1, a2, a3, a4⟩ := rdBuf_ok hok'
    rw [a4]
    exact buf_form hb a1 a2 a3
  · have hok' : (rdBuf n xs 0).2.fault = 0 := hok
    show xs = (be4 (rdBuf n xs 0).1.length ++ (rdBuf n xs 0).1) ++ (rdBuf n xs 0).2.rest
    obtain ⟨a1, a2, a3, a4⟩ := rdBuf_ok hok'
    rw [a4]
    exact buf_form hb a1 a2 a3

/-- A fault leaves the rest as it was. -/
theorem ans_stay (kind n : Int) (hk0 : 1 ≤ kind) (hk1 : kind ≤ 8) (hno : (ansOf kind n xs 0).st.fault ≠ 0) : (ansOf kind n xs 0).st.rest = xs := by
  have hnum : ∀ m : Nat, (rdNum m xs 0).fault ≠ 0 → (rdNum m xs 0).rest = xs := fun m => by
    unfold rdNum
    rw [if_neg (by simp)]
    split <;> simp
  have hbuf : (rdBuf n xs 0).2.fault ≠ 0 → (rdBuf n xs 0).2.rest = xs := by
    unfold rdBuf
    rw [if_neg (by simp)]
    split
    · simp
    · split
      · simp
      · split <;> simp
  have hc : kind = 1 ∨ kind = 2 ∨ kind = 3 ∨ kind = 4 ∨ kind = 5 ∨ kind = 6 ∨ kind = 7 ∨ kind = 8 := by omega
  rcases hc with rfl | rfl | rfl | rfl | rfl | rfl | rfl | rfl
  · revert hno
    show (rdBool xs 0).fault ≠ 0 → (rdBool xs 0).rest = xs
    unfold rdBool
    rw [if_neg (by simp)]
    split
    · simp
    · split <;> simp
  · exact hnum 1 hno
  · exact hnum 4 hno
  · exact hnum 4 hno
  · exact hnum 8 hno
  · revert hno
    show (rdFloat xs 0).fault ≠ 0 → (rdFloat xs 0).rest = xs
    unfold rdFloat
    rw [if_neg (by simp)]
    split
    · simp
    · split <;> simp
  · exact hbuf hno
  · exact hbuf hno
end

end Go.Proofs.YtblgipjipeaemaaGreatDoor
