/- The iterator that path.names makes: it hands out the place behind each slash, and what stands there up to the next one. -/
import Derived.Test.YtkcapiblicfboaaGreatDoorPaBJ
import Derived.Test.YtkcapiblicfboaaGreatDoorRangeRJ
namespace Go.Proofs.YtkcapiblicfboaaGreatDoor
open Go.RowKit Go.Shelf
set_option maxRecDepth 8000
attribute [local go_sem] Oper.semAt_some

def slotEnc (x : Nat × Bs) : Array Value := #[.int .i64 (x.1 : Int), bytesV x.2]

theorem kept_below {w w' : World} (h : Below w.heap.size w w') (S : Blocks) : Kept w w' S := (Below.kept h).mono (fun k hk h => by omega)

theorem below_drew {B : Nat} {a w : World} (h : Below B a w) (n : Nat) : Below B a (w.drewN n) := h.trans ⟨rfl, rfl, rfl, Nat.le_refl _, fun _ _ => rfl⟩

theorem slots_at (l : Bs) (i : Nat) (h : i < l.length) : slots (l.drop i) i = if l.getD i 0 = 47 then (i + 1, seg (l.drop (i + 1))) :: slots (l.drop (i + 1)) (i + 1) else slots (l.drop (i + 1)) (i + 1) := by
  have e : l.drop i = l[i] :: l.drop (i + 1) := List.drop_eq_getElem_cons h
  have g : l.getD i 0 = l[i] := by rw [List.getD_eq_getElem?_getD, List.getElem?_eq_getElem h]; rfl
  rw [e, g, slots]

set_option maxHeartbeats 1000000 in
theorem names1_seq (c0 : Nat) (s : ByteArray) (w : World) (hc : w.heap[c0]? = some (.cells #[.string s] 9 (0, 0))) (hl : s.size ≤ 4294967296) :
    SeqR Tryz.prog 114 #[.pointer (some ⟨c0, 0, none⟩)] slotEnc (fun pre x _ _ => ∃ t, slots s.data.toList 0 = pre ++ x :: t) (fun l => l = slots s.data.toList 0) (fun l => ∃ t, slots s.data.toList 0 = l ++ t) (fun k => k = c0) w := by
  intro l J Jx W hD0 hsz hJ hJx hY h0
  have hcW : W.heap[c0]? = some (.cells #[.string s] 9 (0, 0)) := (hD0 c0 rfl).trans hc
  have hcell : W.cell? ⟨c0, 0, none⟩ = some (.string s) := cell_of_row W c0 0 _ _ _ hcW
  refine (callsIn_wide (n := 0)).1 ?_
  refine callsIn_of_wp Tryz.func114 rfl trivial ?_ rfl
  simp only [Tryz.ntmps114, List.size_toArray, List.length_cons, List.length_nil, Nat.reduceAdd, Nat.reduceSub, Array.replicate_succ, Array.replicate_zero, List.push_toArray, List.append_toArray, List.nil_append, List.cons_append]
  have HA : Hid (w.heap[c0]? = some (.cells #[.string s] 9 (0, 0)) ∧ W.heap[c0]? = some (.cells #[.string s] 9 (0, 0)) ∧ Stays (fun k => k = c0) J) := ⟨hc, hcW, hJ⟩
  have HY : Hid _ := hY
  clear hc hcW hJ hJx hY
  gi_wp2
  gi_loopw [9] (fun v wr => ∃ (i : Nat) (pre : List (Nat × Bs)), v = .int .i64 (i : Int) ∧ i ≤ s.size ∧ Hid (slots s.data.toList 0 = pre ++ slots (s.data.toList.drop i) i) ∧ Hid (J (fun k => k = c0) pre wr) ∧ Hid (wr.heap[c0]? = some (.cells #[.string s] 9 (0, 0)))) (fun v _ => s.size - (intOf v).toNat)
  case atStart => exact ⟨0, [], rfl, Nat.zero_le _, by show _ = _; simp, h0, HA.out.2.1⟩
  case round =>
    obtain ⟨i, pre, rfl, hi, HP, HJ, HC⟩ := hrel
    have hcell : wr.cell? ⟨c0, 0, none⟩ = some (.string s) := cell_of_row wr c0 0 _ _ _ HC.out
    by_cases hlt : i < s.size
    · have hsl := slots_at s.data.toList i (by rw [← size_list]; exact hlt)
      have hby := byte_at s i hlt
      rw [← hby] at hsl
      by_cases h47 : s[i] = 47
      · rw [if_pos h47] at hsl
        have hnat : ((s[i].toNat : Int) == 47) = true := by rw [h47]; rfl
        have HX : Hid (slots s.data.toList 0 = pre ++ (i + 1, seg (s.data.toList.drop (i + 1))) :: slots (s.data.toList.drop (i + 1)) (i + 1)) := by show _ = _; rw [← hsl]; exact HP.out
        have hex : s.extract (i + 1) s.size = ⟨(s.data.toList.drop (i + 1)).toArray⟩ := by
          rw [Lib.extract_eq]
          congr 2
          exact List.take_of_length_le (by rw [List.length_drop, ← size_list]; omega)
        have hel : (s.extract (i + 1) s.size).data.toList = s.data.toList.drop (i + 1) := by rw [hex]
        have hes : (s.extract (i + 1) s.size).size ≤ 4294967296 := by rw [size_list, hel, List.length_drop, ← size_list]; omega
        have HCut : Hid (∀ w1, Calls Tryz.prog 115 #[.string (s.extract (i + 1) s.size), .string slashB] w1 fun e w' => (∃ b2 b3, e = .returned (.tuple #[bytesV (seg (s.data.toList.drop (i + 1))), b2, b3])) ∧ ∃ n, w' = w1.drewN n) := fun w1 => by
          have := cut_slash (s.extract (i + 1) s.size) w1 hes
          rw [hel] at this
          exact this
        clear hsl hby hex hel hes h47
        gi_wp2_with fail
        refine ⟨trivial, rfl, (callsIn_wide.2 (HCut.out _)).mono ?_⟩
        rintro e w1 ⟨⟨b2, b3, rfl⟩, n, rfl⟩
        obtain ⟨fn, tmps, assign, body, hy, hRd⟩ := HY.out _ pre (i + 1, seg (s.data.toList.drop (i + 1))) wr (wr.drewN n) (fun _ h => h) HJ.out (kept_below (below_drew (Below.refl _ wr) n) _) ⟨_, HX.out⟩
        have hy2 : (Instr.yield l #[.int .i64 ((i : Int) + 1), bytesV (seg (s.data.toList.drop (i + 1)))]).run Tryz.prog (wr.drewN n) = .ok (.round l fn tmps assign body) (wr.drewN n) := by
          have e := hy
          simp only [slotEnc, Int.natCast_add] at e
          exact e
        have HRd : Hid _ := hRd
        clear hy hRd
        generalize bytesV (seg (s.data.toList.drop (i + 1))) = nv at *
        gi_wp2_with fail
        refine ⟨rfl, RoundIn.mono HRd.out ?_⟩
        clear hy2
        rintro e W3 ⟨hk3, (⟨rfl, hJ3⟩ | ⟨rfl, hJx3⟩)⟩
        · have HR3 : Hid (Kept (wr.drewN n) W3 (fun k => ¬ k = c0) ∧ J (fun k => k = c0) (pre ++ [(i + 1, seg (s.data.toList.drop (i + 1)))]) W3) := ⟨hk3, hJ3⟩
          clear hk3 hJ3
          gi_wp2
          go_roundw
          case rel =>
            refine ⟨i + 1, pre ++ [(i + 1, seg (s.data.toList.drop (i + 1)))], by simp, by omega, ?_, HR3.out.2, ?_⟩
            · show _ = _
              rw [HX.out]; simp
            · exact HR3.out.1.heap (show (wr.drewN n).heap[c0]? = _ from HC.out) (fun h => h rfl)
          case measure => simp [intOf]; omega
        · have HR3 : Hid (Jx (fun k => k = c0) (pre ++ [(i + 1, seg (s.data.toList.drop (i + 1)))]) W3) := hJx3
          clear hk3 hJx3
          gi_wp2
          refine bodyPost_ret (results_none rfl _ _ _) rfl ?_
          exact ⟨⟨_, rfl⟩, _, .inr ⟨pre ++ [(i + 1, seg (s.data.toList.drop (i + 1)))], ⟨_, by rw [HX.out]; simp; rfl⟩, HR3.out⟩⟩
      · rw [if_neg h47] at hsl
        have hnat : ((s[i].toNat : Int) == 47) = false := by
          rw [beq_eq_false_iff_ne]
          intro e
          exact h47 (UInt8.toNat_inj.1 (by show s[i].toNat = 47; omega))
        have HX : Hid (slots s.data.toList 0 = pre ++ slots (s.data.toList.drop (i + 1)) (i + 1)) := by show _ = _; rw [← hsl]; exact HP.out
        clear hsl hby h47
        gi_wp2
        go_roundw
        case rel => exact ⟨i + 1, pre, by simp, by omega, HX, HJ, HC⟩
        case measure => simp [intOf]; omega
    · have HE : Hid (pre = slots s.data.toList 0) := by
        show _ = _
        rw [HP.out, List.drop_eq_nil_of_le (by rw [← size_list]; omega)]
        simp [slots]
      gi_wp2
      refine bodyPost_end (results_none rfl _ _ _) rfl ?_
      exact ⟨⟨_, rfl⟩, _, .inl ⟨pre, HE.out, HJ.out⟩⟩

end Go.Proofs.YtkcapiblicfboaaGreatDoor
