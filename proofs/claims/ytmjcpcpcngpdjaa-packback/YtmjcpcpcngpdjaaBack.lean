/- What was written is read again: the document's bytes of a value, read, tell the value; no Go function is walked here but again. -/
import Derived.Test.YtmjcpcpcngpdjaaAgain
namespace Go.Proofs.Ytmjcpcpcngpdjaa
open Go.RowKit

theorem num_be4' (n : Int) : num (be4 n) = n := by
  simp only [num, be4, List.foldl_cons, List.foldl_nil]
  omega

theorem num_be8 (n : Int) : num (be8 n) = n := by
  have h4 : (256 : Int) ^ 4 = 4294967296 := by decide
  unfold be8
  rw [num_append, num_be4' _, num_be4' _]
  show n / 4294967296 * 256 ^ 4 + n % 4294967296 = n
  rw [h4]
  omega

theorem str_txt (s : ByteArray) : strOfNums (txt s) = s := by
  unfold strOfNums txt
  rw [List.map_map]
  have : ((fun n : Int => UInt8.ofNat n.toNat) ∘ fun b : UInt8 => (b.toNat : Int)) = id := by
    funext b
    simp
  rw [this]
  simp

theorem be4_len (n : Int) : (be4 n).length = 4 := rfl
theorem be8_len (n : Int) : (be8 n).length = 8 := rfl

theorem take_front {a b : List Int} {n : Nat} (h : a.length = n) : (a ++ b).take n = a := by rw [← h]; simp
theorem drop_front {a b : List Int} {n : Nat} (h : a.length = n) : (a ++ b).drop n = b := by rw [← h]; simp

theorem rdNum_back {n : Nat} {a b : List Int} (h : a.length = n) : rdNum n (a ++ b) 0 = ⟨num a, b, 0⟩ := by
  unfold rdNum
  rw [if_neg (by simp), if_neg (by rw [List.length_append]; omega), take_front h, drop_front h]

theorem rdBuf_back {most : Int} {ys b : List Int} (hl : ys.length ≤ 2147483647) (hm : (ys.length : Int) ≤ most) : rdBuf most ((be4 ys.length ++ ys) ++ b) 0 = (ys, ⟨0, b, 0⟩) := by
  have e4 : ((be4 ys.length ++ ys) ++ b).take 4 = be4 ys.length := by rw [List.append_assoc]; exact take_front rfl
  have e5 : ((be4 ys.length ++ ys) ++ b).drop 4 = ys ++ b := by rw [List.append_assoc]; exact drop_front rfl
  have ha : ahead ((be4 ys.length ++ ys) ++ b) = ys.length := by
    unfold ahead
    rw [e4, num_be4' _]
    unfold wrap32
    omega
  have hlen : ((be4 ys.length ++ ys) ++ b).length = 4 + ys.length + b.length := by rw [List.length_append, List.length_append, be4_len]
  unfold rdBuf
  rw [if_neg (by simp), if_neg (by omega), ha, if_neg (by omega), if_neg (by rw [hlen]; omega), e5, Int.toNat_natCast, take_front rfl, drop_front rfl]

theorem rdRaw_back {ys b : List Int} : rdRaw ys.length (ys ++ b) 0 = (ys, ⟨0, b, 0⟩) := by
  unfold rdRaw
  rw [if_neg (by simp), if_neg (by omega), if_neg (by rw [List.length_append]; omega), Int.toNat_natCast, take_front rfl, drop_front rfl]

theorem bitsOf_form (x : Nat) : 9218868437227405312 < bitsOf x % 9223372036854775808 → bitsOf x = 9221120237041090560 := by
  unfold bitsOf
  intro h
  split
  · rfl
  · rename_i q
    rw [if_neg q] at h
    exact absurd h q

theorem rdFloat_back {y : Nat} {rest : List Int} (h : 9218868437227405312 < y % 9223372036854775808 → y = 9221120237041090560) : rdFloat (be8 (y : Int) ++ rest) 0 = ⟨(y : Int), rest, 0⟩ := by
  unfold rdFloat
  rw [if_neg (by simp), if_neg (by rw [List.length_append, be8_len]; omega), take_front (be8_len _), drop_front (be8_len _), num_be8 _, Int.toNat_natCast]
  rw [if_neg]
  intro q
  exact q.2 (by rw [h q.1]; simp)

/-- What a call told is what was said. -/
def Match (kind n : Int) (x : Nat) (s : ByteArray) (ys : List Int) (A : Ans) : Prop :=
  match kind.toNat with
  | 1 => A.b = (bits .and .i64 n 1 == 1)
  | 2 => A.n = IntKind.i8.wrap n
  | 3 => A.n = wrap32 n
  | 4 => A.n = n % 4294967296
  | 5 => A.n = n
  | 6 => A.x = bitsOf x
  | 7 => A.s = s
  | _ => A.ys = ys

/-- How many bytes at most are asked for. -/
def askFor (kind n : Int) (s : ByteArray) (ys : List Int) : Int := if kind = 7 then (s.size : Int) else if 7 ≤ kind then (ys.length : Int) else n

theorem back1 (n : Int) (x : Nat) (s : ByteArray) (ys rest : List Int) (hf : Fits n x s ys) : (rdBool ([b2i (bits .and .i64 n 1 == 1)] ++ rest) 0).rest = rest ∧ (rdBool ([b2i (bits .and .i64 n 1 == 1)] ++ rest) 0).fault = 0 ∧ ((rdBool ([b2i (bits .and .i64 n 1 == 1)] ++ rest) 0).out == 1) = (bits .and .i64 n 1 == 1) := by
  have hn0 := hf.n0
  have hn1 := hf.n1
  generalize (bits .and .i64 n 1 == 1) = c
  have e : rdBool ([b2i c] ++ rest) 0 = ⟨b2i c, rest, 0⟩ := by
    unfold rdBool
    rw [if_neg (by simp), if_neg (by simp), if_neg (by cases c <;> simp [b2i])]
    simp
  rw [e]
  refine ⟨rfl, rfl, ?_⟩
  cases c <;> rfl

theorem back2 (n : Int) (x : Nat) (s : ByteArray) (ys rest : List Int) (hf : Fits n x s ys) : (rdNum 1 ([IntKind.i8.wrap n % 256] ++ rest) 0).rest = rest ∧ (rdNum 1 ([IntKind.i8.wrap n % 256] ++ rest) 0).fault = 0 ∧ IntKind.i8.wrap (rdNum 1 ([IntKind.i8.wrap n % 256] ++ rest) 0).out = IntKind.i8.wrap n := by
  have hn0 := hf.n0
  have hn1 := hf.n1
  rw [rdNum_back (n := 1) (a := [IntKind.i8.wrap n % 256]) rfl]
  refine ⟨rfl, rfl, ?_⟩
  have e : num [IntKind.i8.wrap n % 256] = IntKind.i8.wrap n % 256 := by simp [num]
  simp only
  rw [e]
  rw [wrap8_is n, wrap8_is]
  split <;> split <;> omega

theorem back3 (n : Int) (x : Nat) (s : ByteArray) (ys rest : List Int) (hf : Fits n x s ys) : (rdNum 4 (be4 (up32 (wrap32 n)) ++ rest) 0).rest = rest ∧ (rdNum 4 (be4 (up32 (wrap32 n)) ++ rest) 0).fault = 0 ∧ down32 (rdNum 4 (be4 (up32 (wrap32 n)) ++ rest) 0).out = wrap32 n := by
  have hn0 := hf.n0
  have hn1 := hf.n1
  rw [rdNum_back (be4_len _)]
  refine ⟨rfl, rfl, ?_⟩
  simp only
  rw [num_be4' _]
  unfold down32 up32 wrap32
  omega

theorem back4 (n : Int) (x : Nat) (s : ByteArray) (ys rest : List Int) (hf : Fits n x s ys) : (rdNum 4 (be4 (n % 4294967296) ++ rest) 0).rest = rest ∧ (rdNum 4 (be4 (n % 4294967296) ++ rest) 0).fault = 0 ∧ (rdNum 4 (be4 (n % 4294967296) ++ rest) 0).out = n % 4294967296 := by
  have hn0 := hf.n0
  have hn1 := hf.n1
  rw [rdNum_back (be4_len _)]
  refine ⟨rfl, rfl, ?_⟩
  simp only
  rw [num_be4' _]

theorem back5 (n : Int) (x : Nat) (s : ByteArray) (ys rest : List Int) (hf : Fits n x s ys) : (rdNum 8 (be8 (up64 n) ++ rest) 0).rest = rest ∧ (rdNum 8 (be8 (up64 n) ++ rest) 0).fault = 0 ∧ wrap64 (rdNum 8 (be8 (up64 n) ++ rest) 0).out = n := by
  have hn0 := hf.n0
  have hn1 := hf.n1
  rw [rdNum_back (be8_len _)]
  refine ⟨rfl, rfl, ?_⟩
  simp only
  rw [num_be8 _]
  unfold wrap64 up64
  omega

theorem back6 (n : Int) (x : Nat) (s : ByteArray) (ys rest : List Int) (hf : Fits n x s ys) : (rdFloat (be8 (bitsOf x) ++ rest) 0).rest = rest ∧ (rdFloat (be8 (bitsOf x) ++ rest) 0).fault = 0 ∧ (rdFloat (be8 (bitsOf x) ++ rest) 0).out.toNat = bitsOf x := by
  have hn0 := hf.n0
  have hn1 := hf.n1
  have e := rdFloat_back (rest := rest) (bitsOf_form x)
  rw [e]
  exact ⟨rfl, rfl, by simp⟩

theorem back9 (n : Int) (x : Nat) (s : ByteArray) (ys rest : List Int) (hf : Fits n x s ys) : (rdRaw (askFor 9 n s ys) (ys ++ rest) 0).2.rest = rest ∧ (rdRaw (askFor 9 n s ys) (ys ++ rest) 0).2.fault = 0 ∧ (rdRaw (askFor 9 n s ys) (ys ++ rest) 0).1 = ys := by
  have hn0 := hf.n0
  have hn1 := hf.n1
  have e : askFor 9 n s ys = (ys.length : Int) := by unfold askFor; rw [if_neg (by omega), if_pos (by omega)]
  rw [e, rdRaw_back]
  exact ⟨rfl, rfl, rfl⟩

theorem ans_back1 (n : Int) (x : Nat) (s : ByteArray) (ys rest : List Int) (hf : Fits n x s ys) : (ansOf 1 (askFor 1 n s ys) (encOf 1 n x s ys ++ rest) 0).st.rest = rest ∧ (ansOf 1 (askFor 1 n s ys) (encOf 1 n x s ys ++ rest) 0).st.fault = 0 ∧ Match 1 n x s ys (ansOf 1 (askFor 1 n s ys) (encOf 1 n x s ys ++ rest) 0) := by
  have e1 : encOf 1 n x s ys = [b2i (bits .and .i64 n 1 == 1)] := rfl
  have e2 : ∀ (N : Int) (zs : List Int), ansOf 1 N zs 0 = ⟨(rdBool zs 0).out == 1, 0, 0, ⟨#[]⟩, [], rdBool zs 0⟩ := fun _ _ => rfl
  have e3 : ∀ A : Ans, Match 1 n x s ys A = (A.b = (bits .and .i64 n 1 == 1)) := fun _ => rfl
  rw [e1, e2, e3]
  exact back1 n x s ys rest hf

theorem ans_back2 (n : Int) (x : Nat) (s : ByteArray) (ys rest : List Int) (hf : Fits n x s ys) : (ansOf 2 (askFor 2 n s ys) (encOf 2 n x s ys ++ rest) 0).st.rest = rest ∧ (ansOf 2 (askFor 2 n s ys) (encOf 2 n x s ys ++ rest) 0).st.fault = 0 ∧ Match 2 n x s ys (ansOf 2 (askFor 2 n s ys) (encOf 2 n x s ys ++ rest) 0) := by
  have e1 : encOf 2 n x s ys = [IntKind.i8.wrap n % 256] := rfl
  have e2 : ∀ (N : Int) (zs : List Int), ansOf 2 N zs 0 = ⟨false, IntKind.i8.wrap (rdNum 1 zs 0).out, 0, ⟨#[]⟩, [], rdNum 1 zs 0⟩ := fun _ _ => rfl
  have e3 : ∀ A : Ans, Match 2 n x s ys A = (A.n = IntKind.i8.wrap n) := fun _ => rfl
  rw [e1, e2, e3]
  exact back2 n x s ys rest hf

theorem ans_back3 (n : Int) (x : Nat) (s : ByteArray) (ys rest : List Int) (hf : Fits n x s ys) : (ansOf 3 (askFor 3 n s ys) (encOf 3 n x s ys ++ rest) 0).st.rest = rest ∧ (ansOf 3 (askFor 3 n s ys) (encOf 3 n x s ys ++ rest) 0).st.fault = 0 ∧ Match 3 n x s ys (ansOf 3 (askFor 3 n s ys) (encOf 3 n x s ys ++ rest) 0) := by
  have e1 : encOf 3 n x s ys = be4 (up32 (wrap32 n)) := rfl
  have e2 : ∀ (N : Int) (zs : List Int), ansOf 3 N zs 0 = ⟨false, down32 (rdNum 4 zs 0).out, 0, ⟨#[]⟩, [], rdNum 4 zs 0⟩ := fun _ _ => rfl
  have e3 : ∀ A : Ans, Match 3 n x s ys A = (A.n = wrap32 n) := fun _ => rfl
  rw [e1, e2, e3]
  exact back3 n x s ys rest hf

theorem ans_back4 (n : Int) (x : Nat) (s : ByteArray) (ys rest : List Int) (hf : Fits n x s ys) : (ansOf 4 (askFor 4 n s ys) (encOf 4 n x s ys ++ rest) 0).st.rest = rest ∧ (ansOf 4 (askFor 4 n s ys) (encOf 4 n x s ys ++ rest) 0).st.fault = 0 ∧ Match 4 n x s ys (ansOf 4 (askFor 4 n s ys) (encOf 4 n x s ys ++ rest) 0) := by
  have e1 : encOf 4 n x s ys = be4 (n % 4294967296) := rfl
  have e2 : ∀ (N : Int) (zs : List Int), ansOf 4 N zs 0 = ⟨false, (rdNum 4 zs 0).out, 0, ⟨#[]⟩, [], rdNum 4 zs 0⟩ := fun _ _ => rfl
  have e3 : ∀ A : Ans, Match 4 n x s ys A = (A.n = n % 4294967296) := fun _ => rfl
  rw [e1, e2, e3]
  exact back4 n x s ys rest hf

theorem ans_back5 (n : Int) (x : Nat) (s : ByteArray) (ys rest : List Int) (hf : Fits n x s ys) : (ansOf 5 (askFor 5 n s ys) (encOf 5 n x s ys ++ rest) 0).st.rest = rest ∧ (ansOf 5 (askFor 5 n s ys) (encOf 5 n x s ys ++ rest) 0).st.fault = 0 ∧ Match 5 n x s ys (ansOf 5 (askFor 5 n s ys) (encOf 5 n x s ys ++ rest) 0) := by
  have e1 : encOf 5 n x s ys = be8 (up64 n) := rfl
  have e2 : ∀ (N : Int) (zs : List Int), ansOf 5 N zs 0 = ⟨false, wrap64 (rdNum 8 zs 0).out, 0, ⟨#[]⟩, [], rdNum 8 zs 0⟩ := fun _ _ => rfl
  have e3 : ∀ A : Ans, Match 5 n x s ys A = (A.n = n) := fun _ => rfl
  rw [e1, e2, e3]
  exact back5 n x s ys rest hf

theorem ans_back6 (n : Int) (x : Nat) (s : ByteArray) (ys rest : List Int) (hf : Fits n x s ys) : (ansOf 6 (askFor 6 n s ys) (encOf 6 n x s ys ++ rest) 0).st.rest = rest ∧ (ansOf 6 (askFor 6 n s ys) (encOf 6 n x s ys ++ rest) 0).st.fault = 0 ∧ Match 6 n x s ys (ansOf 6 (askFor 6 n s ys) (encOf 6 n x s ys ++ rest) 0) := by
  have e1 : encOf 6 n x s ys = be8 (bitsOf x) := rfl
  have e2 : ∀ (N : Int) (zs : List Int), ansOf 6 N zs 0 = ⟨false, 0, (rdFloat zs 0).out.toNat, ⟨#[]⟩, [], rdFloat zs 0⟩ := fun _ _ => rfl
  have e3 : ∀ A : Ans, Match 6 n x s ys A = (A.x = bitsOf x) := fun _ => rfl
  rw [e1, e2, e3]
  exact back6 n x s ys rest hf

theorem ans_back7 (n : Int) (x : Nat) (s : ByteArray) (ys rest : List Int) (hf : Fits n x s ys) : (ansOf 7 (askFor 7 n s ys) (encOf 7 n x s ys ++ rest) 0).st.rest = rest ∧ (ansOf 7 (askFor 7 n s ys) (encOf 7 n x s ys ++ rest) 0).st.fault = 0 ∧ Match 7 n x s ys (ansOf 7 (askFor 7 n s ys) (encOf 7 n x s ys ++ rest) 0) := by
  have e1 : encOf 7 n x s ys = be4 (txt s).length ++ txt s := rfl
  have e2 : ∀ (N : Int) (zs : List Int), ansOf 7 N zs 0 = ⟨false, 0, 0, strOfNums (rdBuf N zs 0).1, [], (rdBuf N zs 0).2⟩ := fun _ _ => rfl
  have e3 : ∀ A : Ans, Match 7 n x s ys A = (A.s = s) := fun _ => rfl
  have e : askFor 7 n s ys = ((txt s).length : Int) := by unfold askFor; rw [if_pos rfl, txt_len]
  rw [e1, e2, e3, e, rdBuf_back (by rw [txt_len]; exact hf.s1) (Int.le_refl _)]
  exact ⟨rfl, rfl, str_txt s⟩

theorem ans_back8 (n : Int) (x : Nat) (s : ByteArray) (ys rest : List Int) (hf : Fits n x s ys) : (ansOf 8 (askFor 8 n s ys) (encOf 8 n x s ys ++ rest) 0).st.rest = rest ∧ (ansOf 8 (askFor 8 n s ys) (encOf 8 n x s ys ++ rest) 0).st.fault = 0 ∧ Match 8 n x s ys (ansOf 8 (askFor 8 n s ys) (encOf 8 n x s ys ++ rest) 0) := by
  have e1 : encOf 8 n x s ys = be4 ys.length ++ ys := rfl
  have e2 : ∀ (N : Int) (zs : List Int), ansOf 8 N zs 0 = ⟨false, 0, 0, ⟨#[]⟩, (rdBuf N zs 0).1, (rdBuf N zs 0).2⟩ := fun _ _ => rfl
  have e3 : ∀ A : Ans, Match 8 n x s ys A = (A.ys = ys) := fun _ => rfl
  have e : askFor 8 n s ys = (ys.length : Int) := by unfold askFor; rw [if_neg (by omega), if_pos (by omega)]
  rw [e1, e2, e3, e, rdBuf_back hf.y1 (Int.le_refl _)]
  exact ⟨rfl, rfl, rfl⟩

theorem ans_back9 (n : Int) (x : Nat) (s : ByteArray) (ys rest : List Int) (hf : Fits n x s ys) : (ansOf 9 (askFor 9 n s ys) (encOf 9 n x s ys ++ rest) 0).st.rest = rest ∧ (ansOf 9 (askFor 9 n s ys) (encOf 9 n x s ys ++ rest) 0).st.fault = 0 ∧ Match 9 n x s ys (ansOf 9 (askFor 9 n s ys) (encOf 9 n x s ys ++ rest) 0) := by
  have e1 : encOf 9 n x s ys = ys := rfl
  have e2 : ∀ (N : Int) (zs : List Int), ansOf 9 N zs 0 = ⟨false, 0, 0, ⟨#[]⟩, (rdRaw N zs 0).1, (rdRaw N zs 0).2⟩ := fun _ _ => rfl
  have e3 : ∀ A : Ans, Match 9 n x s ys A = (A.ys = ys) := fun _ => rfl
  rw [e1, e2, e3]
  exact back9 n x s ys rest hf

theorem ans_back (kind n : Int) (x : Nat) (s : ByteArray) (ys rest : List Int) (hk0 : 1 ≤ kind) (hk1 : kind ≤ 9) (hf : Fits n x s ys) :
    (ansOf kind (askFor kind n s ys) (encOf kind n x s ys ++ rest) 0).st.rest = rest ∧ (ansOf kind (askFor kind n s ys) (encOf kind n x s ys ++ rest) 0).st.fault = 0 ∧ Match kind n x s ys (ansOf kind (askFor kind n s ys) (encOf kind n x s ys ++ rest) 0) := by
  have hc : kind = 1 ∨ kind = 2 ∨ kind = 3 ∨ kind = 4 ∨ kind = 5 ∨ kind = 6 ∨ kind = 7 ∨ kind = 8 ∨ kind = 9 := by omega
  rcases hc with rfl | rfl | rfl | rfl | rfl | rfl | rfl | rfl | rfl
  · exact ans_back1 n x s ys rest hf
  · exact ans_back2 n x s ys rest hf
  · exact ans_back3 n x s ys rest hf
  · exact ans_back4 n x s ys rest hf
  · exact ans_back5 n x s ys rest hf
  · exact ans_back6 n x s ys rest hf
  · exact ans_back7 n x s ys rest hf
  · exact ans_back8 n x s ys rest hf
  · exact ans_back9 n x s ys rest hf

theorem again_any (kind : Int) (hk0 : 1 ≤ kind) (hk1 : kind ≤ 9) (on n : Int) (x : Nat) (s : ByteArray) (ys : List Int) (ao ua : Option Addr) (cap : Nat) (w : World) (A : Ans) (hm : Match kind n x s ys A) (hf : Fits n x s ys)
    (hs : Sees w (.slice ao ys.length cap) ys) (hu : Sees w (.slice ua A.ys.length A.ys.length) A.ys) :
    Calls Try.prog 14 #[opv kind on n x s (.slice ao ys.length cap), .agg (told A.b A.n A.x A.s (.slice ua A.ys.length A.ys.length) 0 0)] w fun e w' => e = .returned (.bool true) ∧ Kept w w' (fun _ => False) := by
  have hc : kind = 1 ∨ kind = 2 ∨ kind = 3 ∨ kind = 4 ∨ kind = 5 ∨ kind = 6 ∨ kind = 7 ∨ kind = 8 ∨ kind = 9 := by omega
  rcases hc with rfl | rfl | rfl | rfl | rfl | rfl | rfl | rfl | rfl
  · have e : A.b = (bits .and .i64 n 1 == 1) := hm
    rw [e]
    exact again_bool on n _ x _ s _ ao ua _ cap _ _ w
  · have e : A.n = IntKind.i8.wrap n := hm
    rw [e]
    exact again_int8 on n _ x _ s _ ao ua _ cap _ _ w
  · have e : A.n = wrap32 n := hm
    rw [e]
    exact again_int32 on n _ x _ s _ ao ua _ cap _ _ w
  · have e : A.n = n % 4294967296 := hm
    rw [e]
    exact again_uint32 on n _ x _ s _ ao ua _ cap _ _ w
  · have e : A.n = n := hm
    rw [e]
    exact again_int64 on n _ x _ s _ ao ua _ cap _ _ w
  · have e : A.x = bitsOf x := hm
    rw [e]
    exact again_float on n _ _ x s _ ao ua _ cap _ _ w hf.x1
  · have e : A.s = s := hm
    rw [e]
    exact again_text on n _ _ x _ s ao ua _ cap _ _ w
  · have e : A.ys = ys := hm
    rw [e] at hu ⊢
    exact again_bytes on n _ _ x _ s _ ao ua _ cap _ _ w 8 (.inl rfl) ys hs hu
  · have e : A.ys = ys := hm
    rw [e] at hu ⊢
    exact again_bytes on n _ _ x _ s _ ao ua _ cap _ _ w 9 (.inr rfl) ys hs hu

end Go.Proofs.Ytmjcpcpcngpdjaa
