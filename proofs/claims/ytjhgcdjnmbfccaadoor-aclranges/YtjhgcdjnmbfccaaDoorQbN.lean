/- What number of the statements of layer 6 answers: a number's text, up to 255. -/
import Derived.Test.YtjhgcdjnmbfccaaDoorQbB
namespace Go.Proofs.YtjhgcdjnmbfccaaDoor
open Go.RowKit Go.Shelf
set_option maxRecDepth 8000

theorem dec3_step : ∀ m : Fin 256, 10 ≤ m.1 → dec3 m.1 = dec3 (m.1 / 10) ++ [UInt8.ofNat (48 + m.1 % 10)] := by decide +kernel

theorem conv_byte (w : World) (x : UInt8) (v : Int) (hv : v = (x.toNat : Int)) : (convert 35 9 (.slice (some ⟨w.heap.size, 0, none⟩) 1 1)).run Tryd.prog (w.alloc (.cells #[.int .u8 v] 5)) = .ok (.string ⟨#[x]⟩) (w.alloc (.cells #[.int .u8 v] 5)) := by
  have hcell : (w.alloc (.cells #[.int .u8 v] 5)).cell? ⟨w.heap.size, 0, none⟩ = some (.int .u8 v) := cell_of_row _ w.heap.size 0 _ _ _ (heap_alloc_new w _)
  have := run_convert_bytes_arg (P := Tryd.prog) (w.alloc (.cells #[.int .u8 v] 5)) 35 5 Tryd.underlying35 Tryd.underlying5 w.heap.size 0 1 1 [(x.toNat : Int)] rfl (fun i hi => by
    obtain rfl : i = 0 := by omega
    rw [Nat.add_zero, hcell, hv]
    rfl) 9 Tryd.underlying9
  rw [this]
  congr 2
  simp [strOfNums]

theorem digit_nat (k : Nat) (hk : k ≤ 9) : (UInt8.ofNat (48 + k)).toNat = 48 + k := by rw [UInt8.toNat_ofNat', Nat.mod_eq_of_lt (by omega)]

theorem app_one (x : UInt8) (t : ByteArray) : ((⟨#[x]⟩ : ByteArray) ++ t).data.toList = x :: t.data.toList := by simp

theorem dec3_len (n : Nat) : (dec3 n).length ≤ 3 := by
  unfold dec3
  split
  · simp
  · split <;> simp

theorem tail_small {n m : Nat} {t : ByteArray} (h : dec3 n = dec3 m ++ t.data.toList) : t.size ≤ 3 := by
  have h1 := dec3_len n
  rw [h, List.length_append, ← size_list] at h1
  omega

set_option maxHeartbeats 1000000 in
theorem lawNumber_any (n : Nat) (hn : n ≤ 255) (w : World) : Calls Tryd.prog 6 #[.int .i64 (n : Int)] w fun e w' => e = .returned (bytesV (dec3 n)) ∧ Below w.heap.size w w' := by
  go_enter Tryd.func6, Tryd.ntmps6
  go_wp2
  go_loopw [0, 3] (fun vn vs wr => ∃ (m : Nat) (t : ByteArray), m ≤ 255 ∧ vn = .int .i64 (m : Int) ∧ vs = .string t ∧ Hid (dec3 n = dec3 m ++ t.data.toList) ∧ Hid (Below w.heap.size w wr)) (fun vn _ _ => (intOf vn).toNat)
  case atStart => exact ⟨n, ⟨#[]⟩, hn, rfl, rfl, by show _ = _; simp, Below.refl _ _⟩
  case round =>
    obtain ⟨m, t, hm, rfl, rfl, HD, HB⟩ := hrel
    have hts : t.size ≤ 3 := tail_small HD.out
    by_cases h9 : 9 < m
    · have hcv := conv_byte wr (UInt8.ofNat (48 + m % 10)) (48 + (m : Int) % 10) (by rw [digit_nat _ (by omega)]; omega)
      have HN : Hid (dec3 n = dec3 (m / 10) ++ ((⟨#[UInt8.ofNat (48 + m % 10)]⟩ : ByteArray) ++ t).data.toList) := by
        show _ = _
        rw [HD.out, app_one, dec3_step ⟨m, by omega⟩ (by show 10 ≤ m; omega)]
        simp
      have HB2 : Hid (Below w.heap.size w (wr.alloc (.cells #[.int .u8 (48 + (m : Int) % 10)] 5))) := HB.out.alloc HB.out.size _
      generalize UInt8.ofNat (48 + m % 10) = x at *
      go_wp2
      go_roundw
      case rel => exact ⟨m / 10, _, by omega, by congr 1, rfl, HN.out, HB2.out⟩
      case measure => simp [intOf]; omega
    · have hcv := conv_byte wr (UInt8.ofNat (48 + m)) (48 + (m : Int)) (by rw [digit_nat _ (by omega)]; omega)
      have HN : Hid (dec3 n = ((⟨#[UInt8.ofNat (48 + m)]⟩ : ByteArray) ++ t).data.toList) := by
        show _ = _
        rw [HD.out, app_one]
        unfold dec3
        rw [if_pos (show m < 10 by omega)]
        rfl
      have HB2 : Hid (Below w.heap.size w (wr.alloc (.cells #[.int .u8 (48 + (m : Int))] 5))) := HB.out.alloc HB.out.size _
      have h9' : m ≤ 9 := by omega
      clear h9
      generalize UInt8.ofNat (48 + m) = x at *
      go_wp2
      all_goals (go_ret; exact ⟨by unfold bytesV; rw [HN.out, bytes_self]; rfl, HB2.out⟩)

end Go.Proofs.YtjhgcdjnmbfccaaDoor
