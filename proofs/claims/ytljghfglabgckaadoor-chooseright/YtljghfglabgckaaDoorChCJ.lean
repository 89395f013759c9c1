/- What choose.behind answers, and what choose.Way answers, as data. -/
import Derived.Test.YtljghfglabgckaaDoorChBJ
namespace Go.Proofs.YtljghfglabgckaaDoor
open Go.RowKit
set_option maxRecDepth 8000

theorem neqZx (e n f m : Int) (w : World) : (binOp .neq 30 (.agg #[.int .u32 e, .int .u32 n]) (.agg #[.int .u32 f, .int .u32 m])).run Tryd.prog w = .ok (.bool (!decide (e = f ∧ n = m))) w := by
  have hu : Tryd.prog.underlying 30 = some (.struct (Tryd.prog.fieldsOf 30)) := by kernel_rfl
  have hp : Tryd.prog.stoodInHeld 30 = false := by kernel_rfl
  have u3 := Tryd.underlying28
  have a3 := Tryd.isAgg28
  have z3 := Tryd.sizeOf28
  rw [run_neq_struct, show (10000 : Nat) = 9999 + 1 from rfl, run_equalIn_agg w 9999 _ _ _ hu hp]
  simp only [Program.fieldsOf, Tryd.underlying30]
  go_simp
  by_cases h1 : e = f <;> by_cases h2 : n = m <;> simp [h1, h2]

/-- The zxid ahead of place k. -/
def lstE (e : Int) (l : List TxD) (k : Nat) : Int := if h : 0 < k ∧ k ≤ l.length then (l[k - 1]'(by omega)).ep else e
def lstN (n : Int) (l : List TxD) (k : Nat) : Int := if h : 0 < k ∧ k ≤ l.length then (l[k - 1]'(by omega)).n else n
theorem lstE_next (e : Int) (l : List TxD) (k : Nat) (h : k < l.length) : lstE e l (k + 1) = l[k].ep := by unfold lstE; rw [dif_pos (by omega)]; rfl
theorem lstN_next (n : Int) (l : List TxD) (k : Nat) (h : k < l.length) : lstN n l (k + 1) = l[k].n := by unfold lstN; rw [dif_pos (by omega)]; rfl
theorem lstE_zero (e : Int) (l : List TxD) : lstE e l 0 = e := by unfold lstE; rw [dif_neg (by omega)]
theorem lstN_zero (n : Int) (l : List TxD) : lstN n l 0 = n := by unfold lstN; rw [dif_neg (by omega)]

theorem cellAt {W : World} {b i : Nat} {cs : Array Value} {t : TypeId} {v : Value} (h : W.heap[b]? = some (.cells cs t (0, 0))) (hv : cs[i]? = some v) : W.cell? ⟨b, i, none⟩ = some v := by rw [cell_of_row _ _ _ _ _ _ h]; exact hv

theorem run_fromK (ao : Option Addr) (len cap k : Nat) (h : k ≤ len) (w : World) : (Instr.slice 22 (.slice ao len cap) (some (.int .i64 (k : Int))) none none).run Tryd.prog w = .ok (sliced ao k len cap 16) w := by
  have ht : Tryd.prog.underlying 22 = some (.slice (Tryd.prog.elem 22)) := by kernel_rfl
  have hs : ∀ w, (sizeOf (Tryd.prog.elem 22)).run Tryd.prog w = .ok 16 w := fun w => by kernel_rfl
  rw [run_slice_l w 22 ao len cap ht .i64 (k : Int) (by omega) (by omega), hs]
  simp only [Result.andThen, Int.toNat_natCast]

set_option maxHeartbeats 2000000 in
theorem chBehind_any (pe pn se sn : Int) (v : Value) (l : List TxD) (w : World) (h : SeesTxs w v l) (hr : rises se sn l = true) (hl : l.length ≤ 1000000) :
    Calls Tryd.prog 19 #[zx pe pn, zx se sn, v] w fun r w' => ∃ u, r = .returned (.tuple #[zx (lstE se l (upN pe pn l)) (lstN sn l (upN pe pn l)), u]) ∧ SeesTxs w' u (l.drop (upN pe pn l)) ∧ Below w.heap.size w w' := by
  obtain ⟨ao, cap, rfl, hlc, hcm⟩ := txs_shape h
  have H : Hid (SeesTxs w (.slice ao l.length cap) l ∧ rises se sn l = true) := ⟨h, hr⟩
  unfold maxLen at hcm
  obtain ⟨V, eV⟩ : ∃ V, V = ((w.alloc (.cells #[.int .u32 pe, .int .u32 pn] 30)).alloc (.cells #[.int .u32 se, .int .u32 sn] 30)).alloc (.cells #[.int .u32 0, .int .u32 0] 30) := ⟨_, rfl⟩
  have HV : Hid (V.heap[w.heap.size]? = some (.cells #[.int .u32 pe, .int .u32 pn] 30 (0, 0)) ∧ V.heap[w.heap.size + 1]? = some (.cells #[.int .u32 se, .int .u32 sn] 30 (0, 0)) ∧ V.heap[w.heap.size + 2]? = some (.cells #[.int .u32 0, .int .u32 0] 30 (0, 0)) ∧ Below w.heap.size w V) := by
    subst eV
    refine ⟨?_, ?_, ?_, (two_alloc _ _ _).alloc (by simp; omega) _⟩
    · rw [Below.heap_alloc _ _ _ (by simp; omega), Below.heap_alloc _ _ _ (by simp)]; exact heap_alloc_new _ _
    · rw [Below.heap_alloc _ _ _ (by simp)]
      have := heap_alloc_new (w.alloc (.cells #[.int .u32 pe, .int .u32 pn] 30)) (.cells #[.int .u32 se, .int .u32 sn] 30 (0, 0))
      simpa using this
    · have := heap_alloc_new ((w.alloc (.cells #[.int .u32 pe, .int .u32 pn] 30)).alloc (.cells #[.int .u32 se, .int .u32 sn] 30)) (.cells #[.int .u32 0, .int .u32 0] 30 (0, 0))
      simpa using this
  have HE : Hid _ := eV
  clear h hr eV
  go_enter Tryd.func19, Tryd.ntmps19
  go_wp2_with fail
  rw [← HE.out]
  refine (upTo_any _ l pe pn se sn V (H.out.1.below HV.out.2.2.2 (Nat.le_refl _)) H.out.2 hl).mono ?_
  rintro _ w1 ⟨rfl, b1⟩
  have lt0 := lt_of_block HV.out.2.2.1
  have g1 := (Below.kept b1).heap HV.out.2.1 (by have := HV.out.2.2.1; omega)
  have g2 := (Below.kept b1).heap HV.out.2.2.1 (by omega)
  have HB1 : Hid (Below w.heap.size w w1) := HV.out.2.2.2.trans (b1.mono HV.out.2.2.2.size)
  have HS1 : Hid (SeesTxs w1 (.slice ao l.length cap) l) := H.out.1.below HB1.out (Nat.le_refl _)
  have c0 : w1.cell? ⟨w.heap.size + 1, 0, none⟩ = some (.int .u32 se) := cellAt g1 rfl
  have c1 : w1.cell? ⟨w.heap.size + 1, 1, none⟩ = some (.int .u32 sn) := cellAt g1 rfl
  have f0 : w1.frozen? ⟨w.heap.size + 2, 0, none⟩ = false := frozen_of_row _ _ _ _ _ g2
  have f1 : w1.frozen? ⟨w.heap.size + 2, 1, none⟩ = false := frozen_of_row _ _ _ _ _ g2
  have d0 : w1.cell? ⟨w.heap.size + 2, 0, none⟩ = some (.int .u32 0) := cellAt g2 rfl
  have d1 : w1.cell? ⟨w.heap.size + 2, 1, none⟩ = some (.int .u32 0) := cellAt g2 rfl
  have hke : ∀ a b : Value, Below w.heap.size w ((w1.setCell ⟨w.heap.size + 2, 0, none⟩ a).setCell ⟨w.heap.size + 2, 1, none⟩ b) := fun a b => HB1.out.trans ((((Kept.refl w1 (fun k => k = w.heap.size + 2)).setCell ⟨w.heap.size + 2, 0, none⟩ a (fun _ => rfl)).setCell ⟨w.heap.size + 2, 1, none⟩ b (fun _ => rfl)).below HB1.out.size (fun k e => by omega))
  have hks : ∀ (a b : Value) (u : Value) (m : List TxD), SeesTxs w u m → SeesTxs ((w1.setCell ⟨w.heap.size + 2, 0, none⟩ a).setCell ⟨w.heap.size + 2, 1, none⟩ b) u m := fun a b u m hu => hu.below (hke a b) (Nat.le_refl _)
  have HKE : Hid _ := hke
  have HKS : Hid _ := hks
  have hup := upN_le pe pn l
  obtain ⟨k, hk⟩ : ∃ k, k = upN pe pn l := ⟨_, rfl⟩
  rw [← hk] at hup ⊢
  have HK : Hid _ := hk
  clear b1 HE hk hke hks
  by_cases hz : k = 0
  · subst hz
    have HL : Hid (lstE se l 0 = se ∧ lstN sn l 0 = sn) := ⟨lstE_zero _ _, lstN_zero _ _⟩
    go_wp2_with fail
    refine bodyPost_ret (v := .tuple #[zx se sn, .slice ao l.length cap]) (by simp [results, Tryd.results19, go_sem, d0, d1]) rfl ⟨_, by rw [← HK.out, HL.out.1, HL.out.2], by rw [← HK.out, List.drop_zero]; exact HKS.out _ _ _ _ H.out.1, HKE.out _ _⟩
  · obtain ⟨j, rfl⟩ : ∃ j, k = j + 1 := ⟨k - 1, by omega⟩
    have hj : j < l.length := by omega
    have hjj : ((j + 1 : Nat) : Int) = (j : Int) + 1 := by omega
    have hne : decide ((j : Int) + 1 = 0) = false := by simp; omega
    obtain ⟨b, off, cap', rc, hv, _, _, _, hat⟩ := txs_at HS1.out j hj
    simp at hv
    obtain ⟨rfl, rfl⟩ := hv
    have e0 : w1.cell? ⟨b, off + j * 16, none⟩ = some (.int .u32 l[j].ep) := hat 0 (by omega)
    have e1 : w1.cell? ⟨b, off + j * 16 + 1, none⟩ = some (.int .u32 l[j].n) := hat 1 (by omega)
    have hsl : ∀ w, (Instr.slice 22 (.slice (some ⟨b, off, none⟩) l.length cap) (some (.int .i64 ((j : Int) + 1))) none none).run Tryd.prog w = .ok (sliced (some ⟨b, off, none⟩) (j + 1) l.length cap 16) w := fun w => by
      have := run_fromK (some ⟨b, off, none⟩) l.length cap (j + 1) (by omega) w
      rw [hjj] at this
      exact this
    have HL : Hid (lstE se l (j + 1) = l[j].ep ∧ lstN sn l (j + 1) = l[j].n) := ⟨lstE_next _ _ _ hj, lstN_next _ _ _ hj⟩
    have HC : Hid (SeesTxs w (sliced (some ⟨b, off, none⟩) (j + 1) l.length cap 16) (l.drop (j + 1))) := by
      have := seesTxs_cut H.out.1 (j + 1) l.length (by omega) (Nat.le_refl _)
      rwa [List.take_length] at this
    generalize sliced (some ⟨b, off, none⟩) (j + 1) l.length cap 16 = P1 at *
    clear hat hjj
    go_wp2_with fail
    go_region
    go_wp2_with fail
    refine bodyPost_ret (v := .tuple #[zx l[j].ep l[j].n, P1]) (by simp [results, Tryd.results19, go_sem, d0, d1]) rfl ⟨_, by rw [← HK.out, HL.out.1, HL.out.2], by rw [← HK.out]; exact HC.out.below (below_drewN (HKE.out _ _) 1) (Nat.le_refl _), below_drewN (HKE.out _ _) 1⟩

/-- What Way answers, as data. -/
structure ChD where
  way : Int
  fe : Int
  fn : Int
  near : Bool
  err : Int

/-- How transactions are sent. -/
def sendW (same : Bool) (rest : Nat) : Int := if same then 1 else if rest = 0 then 2 else 3

def chN (pe pn se sn : Int) (l : List TxD) (ca im : Int) (x : Nat) (k : Nat) : ChD :=
  if ((l.length - k : Nat) : Int) ≤ ca then ⟨sendW (decide (lstE se l k = pe ∧ lstN sn l k = pn)) (l.length - k), lstE se l k, lstN sn l k, true, 0⟩
  else if undB (szL (l.drop k)) im x then ⟨sendW (decide (lstE se l k = pe ∧ lstN sn l k = pn)) (l.length - k), lstE se l k, lstN sn l k, false, 0⟩
  else ⟨4, 0, 0, false, 0⟩

def chW (pe pn se sn : Int) (l : List TxD) (ca im : Int) (x : Nat) : ChD :=
  if rises se sn l = false ∨ ca < 0 ∨ (l.length : Int) < ca ∨ im < 0 then ⟨0, 0, 0, false, 1⟩
  else if zcmp pe pn se sn < 0 then ⟨4, 0, 0, false, 0⟩
  else chN pe pn se sn l ca im x (upN pe pn l)

abbrev ChD.val (c : ChD) : Value := .agg #[.int .i8 c.way, .int .u32 c.fe, .int .u32 c.fn, .bool c.near]
end Go.Proofs.YtljghfglabgckaaDoor
