/- What acl.ParsePerms answers. -/
import Derived.Test.YtadidhgaeegokaaDoorQcT
namespace Go.Proofs.YtadidhgaeegokaaDoor
open Go.RowKit Go.Shelf
set_option maxRecDepth 8000

/-- A letter's bit. -/
def bitB (b : UInt8) : Nat := if b.toNat = 99 then 4 else if b.toNat = 100 then 8 else if b.toNat = 114 then 1 else if b.toNat = 119 then 2 else if b.toNat = 97 then 16 else 0

theorem bitB_V (b : UInt8) : bitV (b.toNat : Int) = (bitB b : Int) := by
  unfold bitV bitB
  by_cases h0 : b.toNat = 99
  · rw [if_pos h0, if_pos (by omega)]; rfl
  rw [if_neg h0, if_neg (by omega)]
  by_cases h1 : b.toNat = 100
  · rw [if_pos h1, if_pos (by omega)]; rfl
  rw [if_neg h1, if_neg (by omega)]
  by_cases h2 : b.toNat = 114
  · rw [if_pos h2, if_pos (by omega)]; rfl
  rw [if_neg h2, if_neg (by omega)]
  by_cases h3 : b.toNat = 119
  · rw [if_pos h3, if_pos (by omega)]; rfl
  rw [if_neg h3, if_neg (by omega)]
  by_cases h4 : b.toNat = 97
  · rw [if_pos h4, if_pos (by omega)]; rfl
  rw [if_neg h4, if_neg (by omega)]
  rfl

theorem bitV_high {c : Nat} (h : 128 ≤ c) : bitV (c : Int) = 0 := by
  unfold bitV
  rw [if_neg (by omega), if_neg (by omega), if_neg (by omega), if_neg (by omega), if_neg (by omega)]

theorem bitB_high {b : UInt8} (h : 128 ≤ b.toNat) : bitB b = 0 := by
  have := bitB_V b
  rw [bitV_high h] at this
  omega

/-- A bit has a place. -/
theorem bitB_pow (b : UInt8) : bitB b = 0 ∨ ∃ s, s < 5 ∧ bitB b = 2 ^ s := by
  unfold bitB
  by_cases h0 : b.toNat = 99
  · rw [if_pos h0]; exact .inr ⟨2, by omega, rfl⟩
  rw [if_neg h0]
  by_cases h1 : b.toNat = 100
  · rw [if_pos h1]; exact .inr ⟨3, by omega, rfl⟩
  rw [if_neg h1]
  by_cases h2 : b.toNat = 114
  · rw [if_pos h2]; exact .inr ⟨0, by omega, rfl⟩
  rw [if_neg h2]
  by_cases h3 : b.toNat = 119
  · rw [if_pos h3]; exact .inr ⟨1, by omega, rfl⟩
  rw [if_neg h3]
  by_cases h4 : b.toNat = 97
  · rw [if_pos h4]; exact .inr ⟨4, by omega, rfl⟩
  rw [if_neg h4]
  exact .inl rfl

/-- Letters read one by one: none, if one is no letter or came already. -/
def ppF : Bs → Nat → Option Nat
  | [], p => some p
  | b :: t, p => if bitB b = 0 ∨ p / bitB b % 2 = 1 then none else ppF t (p + bitB b)

theorem ppF_app (l m : Bs) (p : Nat) : ppF (l ++ m) p = (ppF l p).bind fun q => ppF m q := by
  induction l generalizing p with
  | nil => rfl
  | cons b t ih =>
    simp only [List.cons_append, ppF]
    by_cases h : bitB b = 0 ∨ p / bitB b % 2 = 1
    · rw [if_pos h, if_pos h]; rfl
    · rw [if_neg h, if_neg h, ih]

theorem pp_bits : ∀ (p : Fin 32) (s : Fin 5), bits .and .i8 (p.1 : Int) ((2 ^ s.1 : Nat) : Int) = (if p.1 / 2 ^ s.1 % 2 = 1 then ((2 ^ s.1 : Nat) : Int) else 0) ∧ (p.1 / 2 ^ s.1 % 2 = 0 → bits .or .i8 (p.1 : Int) ((2 ^ s.1 : Nat) : Int) = ((p.1 + 2 ^ s.1 : Nat) : Int) ∧ p.1 + 2 ^ s.1 < 32) := by decide +kernel

/-- What ParsePerms answers. -/
def ppV (l : Bs) : Value := if l = [45] then .tuple #[.int .i8 0, .int .i64 0] else match ppF l 0 with
  | some (n + 1) => .tuple #[.int .i8 ((n + 1 : Nat) : Int), .int .i64 0]
  | _ => .tuple #[.int .i8 0, .int .i64 60]

set_option maxHeartbeats 2000000 in
theorem parse_any (s : ByteArray) (w : World) (hL : Ltr w) :
    Calls Tryd.prog 11 #[.string s] w fun e w' => e = .returned (ppV s.data.toList) ∧ Below w.heap.size w w' := by
  have hz := size_list s
  obtain ⟨val, hval⟩ : ∃ val, val = ppV s.data.toList := ⟨_, rfl⟩
  rw [← hval]
  have e0 := eqT s [45]
  by_cases hd : s.data.toList = [45]
  · rw [decide_eq_true hd] at e0
    have HX : Hid (val = .tuple #[.int .i8 0, .int .i64 0]) := by show _ = _; rw [hval]; unfold ppV; rw [if_pos hd]
    clear hval hd hL hz
    go_enter Tryd.func11, Tryd.ntmps11
    go_wp2
    go_ret2
    exact ⟨by rw [HX.out]; rfl, Below.refl _ _⟩
  rw [decide_eq_false hd] at e0
  have HV : Hid (val = match ppF s.data.toList 0 with | some (n + 1) => .tuple #[.int .i8 ((n + 1 : Nat) : Int), .int .i64 0] | _ => .tuple #[.int .i8 0, .int .i64 60]) := by
    show _ = _; rw [hval]; unfold ppV; rw [if_neg hd]
  have HZ : Hid (s.size = s.data.toList.length) := hz
  clear hval hd hz
  have HL : Hid (Ltr w) := hL
  clear hL
  go_enter Tryd.func11, Tryd.ntmps11
  go_wp2
  go_loopw [4] (fun vp wr => ∃ pos p : Nat, p < 32 ∧ vp = .int .i8 (p : Int) ∧ pos ≤ s.size ∧ wr.heap[w.heap.size]? = some (.stringIter s pos) ∧ Hid (ppF (s.data.toList.take pos) 0 = some p) ∧ Hid (Ltr wr) ∧ Hid (Below w.heap.size w wr)) (fun _ wr => s.size - wr.iterPos w.heap.size)
  case atStart => exact ⟨0, 0, by omega, rfl, Nat.zero_le _, heap_alloc_new _ _, rfl, HL.out.below ((Below.refl _ _).alloc (Nat.le_refl _) _), (Below.refl _ _).alloc (Nat.le_refl _) _⟩
  case round =>
    obtain ⟨pos, p, hp32, rfl, hpos, hit, HP, HL2, HB⟩ := hrel
    by_cases hp : pos < s.size
    · have hnx : ∀ ty, (Instr.next (.pointer (some ⟨w.heap.size, 0, none⟩)) true ty).run Tryd.prog wr = _ := fun ty => Lib.run_next_any_at wr w.heap.size s pos ty hit hp
      obtain ⟨b, hb⟩ : ∃ b, b = s.data.toList.getD pos 0 := ⟨_, rfl⟩
      have hcons : s.data.toList.drop pos = b :: s.data.toList.drop (pos + 1) := by
        rw [List.drop_eq_getElem_cons (by have := HZ.out; omega), hb, List.getD_eq_getElem?_getD, List.getElem?_eq_getElem (by have := HZ.out; omega)]
        rfl
      have hsplit : ppF s.data.toList 0 = ppF (b :: s.data.toList.drop (pos + 1)) p := by
        conv => lhs; rw [← List.take_append_drop pos s.data.toList]
        rw [ppF_app, HP.out, hcons]
        rfl
      have htake : ppF (s.data.toList.take (pos + 1)) 0 = ppF [b] p := by
        have : s.data.toList.take (pos + 1) = s.data.toList.take pos ++ [b] := by
          rw [List.take_add_one, List.getElem?_eq_getElem (by have := HZ.out; omega), hb, List.getD_eq_getElem?_getD, List.getElem?_eq_getElem (by have := HZ.out; omega)]
          rfl
        rw [this, ppF_app, HP.out]
        rfl
      have hrv : bitV ((Utf8.decode s pos).1 : Int) = (bitB b : Int) := by
        rw [decode_dec, hcons]
        by_cases h128 : b.toNat < 128
        · rw [dec_ascii b _ h128]
          exact bitB_V b
        · rw [bitV_high (dec_high b _ (by omega)), bitB_high (by omega)]
          rfl
      have hone : bitB b ≠ 0 → (Utf8.decode s pos).2 = 1 := by
        intro h
        have h128 : b.toNat < 128 := by
          apply Nat.lt_of_not_le
          intro h'
          exact h (bitB_high h')
        rw [decode_dec, hcons, dec_ascii b _ h128]
      have HI : Hid ((wr.iterAt w.heap.size s (pos + (Utf8.decode s pos).2)).heap[w.heap.size]? = some (.stringIter s (pos + (Utf8.decode s pos).2)) ∧ Below w.heap.size w (wr.iterAt w.heap.size s (pos + (Utf8.decode s pos).2))) := ⟨Lib.iterAt_heap _ _ _ _ _ hit, Lib.below_iterAt HB.out (Nat.le_refl _) _ _⟩
      have HBit := bitOf_any ((Utf8.decode s pos).1 : Int) (wr.iterAt w.heap.size s (pos + (Utf8.decode s pos).2)) (HL.out.below HI.out.2)
      rw [hrv] at HBit
      have hpos0 : wr.iterPos w.heap.size = pos := by unfold World.iterPos; rw [hit]
      obtain ⟨v, hv⟩ : ∃ v, v = bitB b := ⟨_, rfl⟩
      have hpow := bitB_pow b
      rw [← hv] at HBit hone hpow
      have HS : Hid ((v = 0 ∨ p / v % 2 = 1 → val = .tuple #[.int .i8 0, .int .i64 60]) ∧ (¬ (v = 0 ∨ p / v % 2 = 1) → ppF (s.data.toList.take (pos + 1)) 0 = some (p + v))) := by
        refine ⟨fun h => ?_, fun h => ?_⟩
        · rw [HV.out, hsplit, ppF, ← hv, if_pos h]
        · rw [htake, ppF, ← hv, if_neg h]
          rfl
      clear hb hcons hsplit htake hrv hv hit
      go_wp2_with fail
      go_at_call 23
      refine HBit.mono ?_
      rintro e w2 ⟨rfl, hB2⟩
      have H2 : Hid (w2.heap[w.heap.size]? = some (.stringIter s (pos + (Utf8.decode s pos).2)) ∧ Below w.heap.size w w2) :=
        ⟨(hB2.block _ (lt_of_block HI.out.1)).trans HI.out.1, HI.out.2.trans (hB2.mono HI.out.2.size)⟩
      clear hB2 HBit HI hnx
      by_cases hv0 : v = 0
      · have HX : Hid (val = .tuple #[.int .i8 0, .int .i64 60]) := HS.out.1 (.inl hv0)
        have hq : ((v : Int) == 0) = true := by rw [hv0]; rfl
        clear hpow hone HS hv0
        go_wp2
        go_ret2
        exact ⟨by rw [HX.out]; rfl, H2.out.2⟩
      · have hq : ((v : Int) == 0) = false := by rw [beq_eq_false_iff_ne]; omega
        rw [hone hv0] at H2
        obtain ⟨sh, hsh, rfl⟩ : ∃ sh, sh < 5 ∧ v = 2 ^ sh := by
          rcases hpow with h | h
          · exact absurd h hv0
          · exact h
        obtain ⟨b1, b2⟩ := pp_bits ⟨p, hp32⟩ ⟨sh, hsh⟩
        dsimp only at b1 b2
        by_cases hd : p / 2 ^ sh % 2 = 1
        · have HX : Hid (val = .tuple #[.int .i8 0, .int .i64 60]) := HS.out.1 (.inr hd)
          rw [if_pos hd] at b1
          have hq2 : (bits .and .i8 (p : Int) ((2 ^ sh : Nat) : Int) != 0) = true := by rw [b1, bne_iff_ne]; omega
          clear b1 b2 hd HS hv0 hone
          generalize ((2 ^ sh : Nat) : Int) = vv at *
          go_wp2
          go_ret2
          exact ⟨by rw [HX.out]; rfl, H2.out.2⟩
        · have HX : Hid (ppF (s.data.toList.take (pos + 1)) 0 = some (p + 2 ^ sh)) := HS.out.2 (fun h => by rcases h with h | h; exact hv0 h; exact hd h)
          rw [if_neg hd] at b1
          have hq2 : (bits .and .i8 (p : Int) ((2 ^ sh : Nat) : Int) != 0) = false := by rw [b1]; rfl
          have H3 : Hid (bits .or .i8 (p : Int) ((2 ^ sh : Nat) : Int) = ((p + 2 ^ sh : Nat) : Int) ∧ p + 2 ^ sh < 32) := b2 (by omega)
          have hpos1 : w2.iterPos w.heap.size = pos + 1 := by unfold World.iterPos; rw [H2.out.1]
          clear b1 b2 hd HS hv0 hone
          generalize hvv : ((2 ^ sh : Nat) : Int) = vv at *
          go_wp2
          go_roundw
          case rel => exact ⟨pos + 1, p + 2 ^ sh, H3.out.2, by rw [H3.out.1], by omega, H2.out.1, HX, HL.out.below H2.out.2, H2.out.2⟩
          case measure => rw [hpos0, hpos1]; omega
    · have hnx : ∀ ty, (Instr.next (.pointer (some ⟨w.heap.size, 0, none⟩)) true ty).run Tryd.prog wr = _ := fun ty => Lib.run_next_end_at wr w.heap.size s pos ty hit hp
      have hpp : ppF s.data.toList 0 = some p := by
        have := HP.out
        rw [List.take_of_length_le (by have := HZ.out; omega)] at this
        exact this
      have hE := errorUnless_any (decide (p ≠ 0)) wr
      have hne : ((p : Int) != 0) = decide (p ≠ 0) := by
        rw [Bool.eq_iff_iff, bne_iff_ne, decide_eq_true_eq]; omega
      have HX : Hid (val = .tuple #[.int .i8 (p : Int), erV (decide (p ≠ 0))]) := by
        show _ = _
        rw [HV.out, hpp]
        cases p with
        | zero => rfl
        | succ n => rfl
      clear HV HZ HP HL2 hpp hit
      generalize decide (p ≠ 0) = bp at *
      go_wp2_with fail
      go_at_call 24
      refine hE.mono ?_
      rintro e w2 ⟨rfl, rfl⟩
      go_wp2
      go_ret2
      exact ⟨by rw [HX.out]; rfl, HB.out⟩

end Go.Proofs.YtadidhgaeegokaaDoor
