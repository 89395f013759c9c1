/- The iterator that the library's SplitSeq makes at a dot: it hands out the fields of a text. -/
import Derived.Test.YtgoiefhhbgollaaGreatDoorQbAJ
import Derived.Test.YtgoiefhhbgollaaGreatDoorRangeSJ
namespace Go.Proofs.YtgoiefhhbgollaaGreatDoor
open Go.RowKit Go.Shelf
set_option maxRecDepth 8000
attribute [local go_sem] Oper.semAt_some

def fldEnc (x : Bs) : Array Value := #[bytesV x]

theorem kept_below' {w w' : World} (h : Below w.heap.size w w') (S : Blocks) : Kept w w' S := (Below.kept h).mono (fun k hk h => by omega)

theorem below_drew' {B : Nat} {a w : World} (h : Below B a w) (n : Nat) : Below B a (w.drewN n) := h.trans ⟨rfl, rfl, rfl, Nat.le_refl _, fun _ _ => rfl⟩

/-- The iterator's own cells: the text that is left, the dot, nought. -/
def Spl (c : Nat) (l : Bs) (w : World) : Prop := w.heap[c]? = some (.cells #[bytesV l] 9 (0, 0)) ∧ w.heap[c + 1]? = some (.cells #[.string dotB] 9 (0, 0)) ∧ w.heap[c + 2]? = some (.cells #[.int .i64 0] 3 (0, 0))

def three (c : Nat) : Blocks := fun k => k = c ∨ k = c + 1 ∨ k = c + 2

set_option maxHeartbeats 1000000 in
theorem split1_seq (c : Nat) (l0 : Bs) (w : World) (hc : Spl c l0 w) (hl : l0.length ≤ 4294967296) :
    SeqS Tryz.prog 135 #[.pointer (some ⟨c + 1, 0, none⟩), .pointer (some ⟨c, 0, none⟩), .pointer (some ⟨c + 2, 0, none⟩)] fldEnc (fun pre x _ _ => ∃ t, flds 46 l0 = pre ++ x :: t) (fun l => l = flds 46 l0) (fun l => ∃ t, flds 46 l0 = l ++ t) (fun _ => False) (three c) w := by
  intro l J Jx W hD0 hsz hJ hJx hY h0
  have hcW : Spl c l0 W := ⟨(hD0 c (.inl rfl)).trans hc.1, (hD0 _ (.inr (.inl rfl))).trans hc.2.1, (hD0 _ (.inr (.inr rfl))).trans hc.2.2⟩
  have hcell1 : W.cell? ⟨c + 1, 0, none⟩ = some (.string dotB) := cell_of_row W (c + 1) 0 _ _ _ hcW.2.1
  refine (callsIn_wide (n := 0)).1 ?_
  refine callsIn_of_wp Tryz.func135 rfl trivial ?_ rfl
  simp only [Tryz.ntmps135, List.size_toArray, List.length_cons, List.length_nil, Nat.reduceAdd, Nat.reduceSub, Array.replicate_succ, Array.replicate_zero, List.push_toArray, List.append_toArray, List.nil_append, List.cons_append]
  have HA : Hid (Spl c l0 W ∧ Stays (fun _ => False) J) := ⟨hcW, hJ⟩
  have HY : Hid _ := hY
  clear hc hcW hJ hJx hY
  gi_wp2
  gi_loopw [7] (fun _ wr => ∃ (pre : List Bs) (rs : ByteArray), rs.size ≤ 4294967296 ∧ Hid (rs.data.toList.length < 4294967297) ∧ Hid (flds 46 l0 = pre ++ flds 46 rs.data.toList) ∧ Hid (J (three c) pre wr) ∧ Hid (Spl c rs.data.toList wr) ∧ Hid (rs.size ≤ l0.length)) (fun _ wr => match wr.cell? ⟨c, 0, none⟩ with | some (.string rs) => rs.size | _ => 0)
  case atStart =>
    refine ⟨[], ⟨l0.toArray⟩, ?_, ?_, ?_, h0, ?_, ?_⟩
    · rw [size_list]; simpa using hl
    · show _ < _; simp; omega
    · show _ = _; simp
    · show Spl _ _ _; exact HA.out.1
    · show _ ≤ _; rw [size_list]; simp
  case round =>
    obtain ⟨pre, rs, hrs, HRl, HP, HJ, HC, HLe⟩ := hrel
    have hcell0 : wr.cell? ⟨c, 0, none⟩ = some (.string rs) := by
      have := cell_of_row wr c 0 _ _ _ HC.out.1
      simpa [bytes_self] using this
    have hcell1 : wr.cell? ⟨c + 1, 0, none⟩ = some (.string dotB) := cell_of_row wr (c + 1) 0 _ _ _ HC.out.2.1
    have hcell2 : wr.cell? ⟨c + 2, 0, none⟩ = some (.int .i64 0) := cell_of_row wr (c + 2) 0 _ _ _ HC.out.2.2
    have HM : Hid (wr.cell? ⟨c, 0, none⟩ = some (.string rs)) := hcell0
    have HIdx : Hid (∀ w1, Calls Tryz.prog 137 #[.string rs, .string dotB] w1 fun e w' => e = .returned (.int .i64 (Lib.indexByte rs.data.toList 46)) ∧ w' = w1) := fun w1 => index2_dot rs w1
    by_cases hm : (46 : UInt8) ∈ rs.data.toList
    · obtain ⟨hlt, he1, he2⟩ := hd_extract hm
      rcases flds_step 46 rs.data.toList with ⟨h1, _⟩ | ⟨_, _, hst⟩
      · exact absurd hm h1
      · obtain ⟨k, hk⟩ : ∃ k, k = (hdC 46 rs.data.toList).length := ⟨_, rfl⟩
        have hi : Lib.indexByte rs.data.toList 46 = (k : Int) := by rw [indexByte_at, if_pos hm, hk]
        rw [hi] at HIdx
        rw [← hk] at hlt he1 he2
        have HX : Hid (flds 46 l0 = pre ++ hdC 46 rs.data.toList :: flds 46 (tlC 46 rs.data.toList)) := by show _ = _; rw [← hst]; exact HP.out
        obtain ⟨xs, hxs⟩ : ∃ xs, xs = hdC 46 rs.data.toList := ⟨_, rfl⟩
        obtain ⟨ts, hts⟩ : ∃ ts, ts = tlC 46 rs.data.toList := ⟨_, rfl⟩
        rw [← hxs] at HX he1
        rw [← hts] at HX he2
        have hex : bytesV xs = .string (rs.extract 0 k) := he1
        have HTl : Hid (bytesV ts = .string (rs.extract (k + 1) rs.size)) := he2
        clear hst hi hm hk hxs hts he1 he2
        gi_wp2_with fail
        refine ⟨trivial, rfl, (callsIn_wide.2 (HIdx.out _)).mono ?_⟩
        rintro e w1 ⟨rfl, rfl⟩
        obtain ⟨fn, tmps, assign, body, hy, hRd⟩ := HY.out (three c) pre xs w1 w1 (fun _ h => h) HJ.out (Kept.refl _ _) ⟨_, HX.out⟩
        have hy2 : (Instr.yield l #[.string (rs.extract 0 k)]).run Tryz.prog w1 = .ok (.round l fn tmps assign body) w1 := by
          have e := hy
          simp only [fldEnc] at e
          rw [hex] at e
          exact e
        have HRd : Hid _ := hRd
        clear hy hRd
        gi_wp2_with fail
        refine ⟨rfl, RoundIn.mono HRd.out ?_⟩
        clear hy2
        rintro e W3 ⟨hk3, (⟨rfl, hJ3⟩ | ⟨rfl, hJx3⟩)⟩
        · have d1 : W3.heap[c]? = some (.cells #[bytesV rs.data.toList] 9 (0, 0)) := hk3.heap HC.out.1 (fun h => h (.inl rfl))
          have d2 : W3.heap[c + 1]? = some (.cells #[.string dotB] 9 (0, 0)) := hk3.heap HC.out.2.1 (fun h => h (.inr (.inl rfl)))
          have d3 : W3.heap[c + 2]? = some (.cells #[.int .i64 0] 3 (0, 0)) := hk3.heap HC.out.2.2 (fun h => h (.inr (.inr rfl)))
          have q1 : W3.cell? ⟨c, 0, none⟩ = some (.string rs) := by
            have := cell_of_row W3 c 0 _ _ _ d1
            simpa [bytes_self] using this
          have q2 : W3.cell? ⟨c + 1, 0, none⟩ = some (.string dotB) := cell_of_row W3 (c + 1) 0 _ _ _ d2
          have hfro : W3.frozen? ⟨c, 0, none⟩ = false := frozen_of_row W3 c 0 _ _ d1
          have HR3 : Hid (J (three c) (pre ++ [xs]) (W3.setCell ⟨c, 0, none⟩ (.string (rs.extract (k + 1) rs.size))) ∧ Spl c ts (W3.setCell ⟨c, 0, none⟩ (.string (rs.extract (k + 1) rs.size)))) := by
            refine ⟨HA.out.2 _ _ _ _ _ hJ3 ((Kept.refl W3 _).setCell ⟨c, 0, none⟩ _ (fun _ => ⟨.inl rfl, fun h => h⟩)) (fun k h => .inl h), ?_, ?_, ?_⟩
            · rw [HTl.out]; exact Boxed.set _ d1
            · exact ((Kept.refl W3 (fun k => k = c)).setCell ⟨c, 0, none⟩ _ (fun _ => rfl)).heap d2 (by omega)
            · exact ((Kept.refl W3 (fun k => k = c)).setCell ⟨c, 0, none⟩ _ (fun _ => rfl)).heap d3 (by omega)
          clear hk3 hJ3 d1 d2 d3 hcell0 hcell1 hcell2
          have l1 : (0 : Int) ≤ (k : Int) + 1 := by omega
          have l2 : (k : Int) + 1 ≤ (rs.size : Int) := by omega
          gi_wp2
          go_roundw
          case rel =>
            have hz : (rs.extract (k + 1) rs.size).size = rs.size - (k + 1) := by simp
            have hts : ts = (rs.extract (k + 1) rs.size).data.toList := by
              have := HTl.out
              unfold bytesV at this
              simp only [Value.string.injEq] at this
              rw [← this]
            refine ⟨pre ++ [xs], rs.extract (k + 1) rs.size, by omega, ?_, ?_, HR3.out.1, ?_, ?_⟩
            · show _ < _; rw [← size_list]; omega
            · show _ = _; rw [← hts, HX.out]; simp
            · show Spl _ _ _; rw [← hts]; exact HR3.out.2
            · show _ ≤ _; have := HLe.out; omega
          case measure =>
            have q3 := cell_of_row _ c 0 _ _ _ HR3.out.2.1
            have hz : (rs.extract (k + 1) rs.size).size = rs.size - (k + 1) := by simp
            rw [HM.out]
            simp only [List.getElem?_toArray, List.getElem?_cons_zero, HTl.out] at q3
            first
              | rw [q3]
              | skip
            simp only [] at *
            omega
        · have HR3 : Hid (Jx (three c) (pre ++ [xs]) W3) := hJx3
          clear hk3 hJx3
          gi_wp2
          refine bodyPost_ret (results_none rfl _ _ _) rfl ?_
          exact ⟨⟨_, rfl⟩, _, .inr ⟨pre ++ [xs], ⟨_, by rw [HX.out]; simp; rfl⟩, HR3.out⟩⟩
    · rcases flds_step 46 rs.data.toList with ⟨_, hst⟩ | ⟨h1, _, _⟩
      · have hi : Lib.indexByte rs.data.toList 46 = -1 := by rw [indexByte_at, if_neg hm]
        rw [hi] at HIdx
        have HX : Hid (flds 46 l0 = pre ++ [rs.data.toList]) := by show _ = _; rw [← hst]; exact HP.out
        clear hst hi hm
        gi_wp2_with fail
        refine ⟨trivial, rfl, (callsIn_wide.2 (HIdx.out _)).mono ?_⟩
        rintro e w1 ⟨rfl, rfl⟩
        obtain ⟨fn, tmps, assign, body, hy, hRd⟩ := HY.out (three c) pre rs.data.toList w1 w1 (fun _ h => h) HJ.out (Kept.refl _ _) ⟨[], HX.out⟩
        have hy2 : (Instr.yield l #[.string rs]).run Tryz.prog w1 = .ok (.round l fn tmps assign body) w1 := by
          have e := hy
          simp only [fldEnc, bytesV, bytes_self] at e
          exact e
        have HRd : Hid _ := hRd
        clear hy hRd
        gi_wp2_with fail
        refine ⟨rfl, RoundIn.mono HRd.out ?_⟩
        clear hy2
        rintro e W3 ⟨hk3, (⟨rfl, hJ3⟩ | ⟨rfl, hJx3⟩)⟩
        · have HR3 : Hid (J (three c) (pre ++ [rs.data.toList]) W3) := hJ3
          clear hk3 hJ3
          gi_wp2
          refine bodyPost_end (results_none rfl _ _ _) rfl ?_
          exact ⟨⟨_, rfl⟩, _, .inl ⟨pre ++ [rs.data.toList], HX.out.symm, HR3.out⟩⟩
        · have HR3 : Hid (Jx (three c) (pre ++ [rs.data.toList]) W3) := hJx3
          clear hk3 hJx3
          gi_wp2
          refine bodyPost_end (results_none rfl _ _ _) rfl ?_
          exact ⟨⟨_, rfl⟩, _, .inr ⟨pre ++ [rs.data.toList], ⟨[], by rw [HX.out]; simp⟩, HR3.out⟩⟩
      · exact absurd h1 hm

end Go.Proofs.YtgoiefhhbgollaaGreatDoor
