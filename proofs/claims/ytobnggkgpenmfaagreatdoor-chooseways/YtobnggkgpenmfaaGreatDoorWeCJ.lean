/- What choose.behind answers, and what choose.Way answers, as data. -/
import Derived.Test.YtobnggkgpenmfaaGreatDoorChBJ
import Derived.Test.YtobnggkgpenmfaaGreatDoorProg
import Derived.Test.YtobnggkgpenmfaaGreatDoorLeafSumJ
import Derived.WalkLawsBesides
import Derived.Deep.Draws
import Derived.Laws.BitsAllLaws
import Derived.Test.YtobnggkgpenmfaaGreatDoorRqLJ
import Derived.Maps.AppendAt
import Derived.Shelf.Strconv.Itoa0
import Derived.Shelf.Strconv.Itoa1
import Derived.Shelf.LaysM
import Derived.Shelf.Strconv.Itoa2
import Derived.Shelf.Strconv.Itoa3
import Derived.Ground.SlbCloneProg
import Derived.Shelf.Bytes.SlClone
import Derived.Test.YtobnggkgpenmfaaGreatDoorChk3J
import Derived.Test.YtobnggkgpenmfaaGreatDoorPutRJ
import Derived.Test.YtobnggkgpenmfaaGreatDoorWriteTJ
namespace Go.Proofs.YtobnggkgpenmfaaGreatDoor
open Go.RowKit
set_option maxRecDepth 8000

theorem neqZx (e n f m : Int) (w : World) : (binOp .neq 24 (.agg #[.int .u32 e, .int .u32 n]) (.agg #[.int .u32 f, .int .u32 m])).run Tryz.prog w = .ok (.bool (!decide (e = f ∧ n = m))) w := by
  have hu : Tryz.prog.underlying 24 = some (.struct (Tryz.prog.fieldsOf 24)) := by kernel_rfl
  have hp : Tryz.prog.stoodInHeld 24 = false := by kernel_rfl
  have u3 := Tryz.underlying22
  have a3 := Tryz.isAgg22
  have z3 := Tryz.sizeOf22
  rw [run_neq_struct, show (10000 : Nat) = 9999 + 1 from rfl, run_equalIn_agg w 9999 _ _ _ hu hp]
  simp only [Program.fieldsOf, Tryz.underlying24]
  go_simp
  by_cases h1 : e = f <;> by_cases h2 : n = m <;> simp [h1, h2]

/-- The zxid ahead of place k. -/
def lstE (e : Int) (l : List TxD) (k : Nat) : Int := if h : 0 < k ∧ k ≤ l.length then (l[k - 1]'(by omega)).ep else e
def lstN (n : Int) (l : List TxD) (k : Nat) : Int := if h : 0 < k ∧ k ≤ l.length then (l[k - 1]'(by omega)).n else n
theorem lstE_next (e : Int) (l : List TxD) (k : Nat) (h : k < l.length) : lstE e l (k + 1) = l[k].ep := by unfold lstE; rw [dif_pos (by omega)]; rfl
theorem lstN_next (n : Int) (l : List TxD) (k : Nat) (h : k < l.length) : lstN n l (k + 1) = l[k].n := by unfold lstN; rw [dif_pos (by omega)]; rfl
theorem lstE_zero (e : Int) (l : List TxD) : lstE e l 0 = e := by unfold lstE; rw [dif_neg (by omega)]
theorem lstN_zero (n : Int) (l : List TxD) : lstN n l 0 = n := by unfold lstN; rw [dif_neg (by omega)]

theorem cellAt {W : World} {b i : Nat} {cs : Array Value} {t : TypeId} {v : Value} (h : W.heap[b]? = some (.cells cs t (0, 0))) (hv : cs[i]? = some v) : W.cell? ⟨b, i, none⟩ = some v := by rw [cell_of_row _ _ _ _ _ _ h]; exact hv

theorem run_fromK (ao : Option Addr) (len cap k : Nat) (h : k ≤ len) (w : World) : (Instr.slice 25 (.slice ao len cap) (some (.int .i64 (k : Int))) none none).run Tryz.prog w = .ok (sliced ao k len cap 16) w := by
  have ht : Tryz.prog.underlying 25 = some (.slice (Tryz.prog.elem 25)) := by kernel_rfl
  have hs : ∀ w, (sizeOf (Tryz.prog.elem 25)).run Tryz.prog w = .ok 16 w := fun w => by kernel_rfl
  rw [run_slice_l w 25 ao len cap ht .i64 (k : Int) (by omega) (by omega), hs]
  simp only [Result.andThen, Int.toNat_natCast]

set_option maxHeartbeats 2000000 in
theorem chBehind_any (pe pn se sn : Int) (v : Value) (l : List TxD) (w : World) (h : SeesTxs w v l) (hr : rises se sn l = true) (hl : l.length ≤ 1000000) :
    Calls Tryz.prog 32 #[zx pe pn, zx se sn, v] w fun r w' => ∃ u, r = .returned (.tuple #[zx (lstE se l (upN pe pn l)) (lstN sn l (upN pe pn l)), u]) ∧ SeesTxs w' u (l.drop (upN pe pn l)) ∧ Below w.heap.size w w' := by
  obtain ⟨ao, cap, rfl, hlc, hcm⟩ := txs_shape h
  have H : Hid (SeesTxs w (.slice ao l.length cap) l ∧ rises se sn l = true) := ⟨h, hr⟩
  unfold maxLen at hcm
  obtain ⟨V, eV⟩ : ∃ V, V = ((w.alloc (.cells #[.int .u32 pe, .int .u32 pn] 24)).alloc (.cells #[.int .u32 se, .int .u32 sn] 24)).alloc (.cells #[.int .u32 0, .int .u32 0] 24) := ⟨_, rfl⟩
  have HV : Hid (V.heap[w.heap.size]? = some (.cells #[.int .u32 pe, .int .u32 pn] 24 (0, 0)) ∧ V.heap[w.heap.size + 1]? = some (.cells #[.int .u32 se, .int .u32 sn] 24 (0, 0)) ∧ V.heap[w.heap.size + 2]? = some (.cells #[.int .u32 0, .int .u32 0] 24 (0, 0)) ∧ Below w.heap.size w V) := by
    subst eV
    refine ⟨?_, ?_, ?_, (two_alloc _ _ _).alloc (by simp; omega) _⟩
    · rw [Below.heap_alloc _ _ _ (by simp; omega), Below.heap_alloc _ _ _ (by simp)]; exact heap_alloc_new _ _
    · rw [Below.heap_alloc _ _ _ (by simp)]
      have := heap_alloc_new (w.alloc (.cells #[.int .u32 pe, .int .u32 pn] 24)) (.cells #[.int .u32 se, .int .u32 sn] 24 (0, 0))
      simpa using this
    · have := heap_alloc_new ((w.alloc (.cells #[.int .u32 pe, .int .u32 pn] 24)).alloc (.cells #[.int .u32 se, .int .u32 sn] 24)) (.cells #[.int .u32 0, .int .u32 0] 24 (0, 0))
      simpa using this
  have HE : Hid _ := eV
  clear h hr eV
  go_enter Tryz.func32, Tryz.ntmps32
  go_wp2_with fail
  rw [← HE.out]
  refine (upTo_any _ l pe pn se sn V (H.out.1.below HV.out.2.2.2 (Nat.le_refl _)) H.out.2 hl).mono ?_
  rintro _ w1 ⟨rfl, b1⟩
  have lt0 := lt_of_block HV.out.2.2.1
  have g1 := (Below.kept b1).heap HV.out.2.1 (by have := HV.out.2.2.1; omega)
  have g2 := (Below.kept b1).heap HV.out.2.2.1 (by omega)
  have HB1 : Hid (Below w.heap.size w w1) := HV.out.2.2.2.trans (b1.mono HV.out.2.2.2.size)
  have HS1 : Hid (SeesTxs w1 (.slice ao l.length cap) l) := H.out.1.below HB1.out (Nat.le_refl _)
  have c0 : w1.cell? ⟨w.heap.size + 1, 0, none⟩ = some (.int .u32 se) := cellAt g1 rfl
  have c1 : w1.cell? ⟨w.heap.size + 1, 1, none⟩ = some (.int .u32 sn) := cellAt g1 rfl
  have f0 : w1.frozen? ⟨w.heap.size + 2, 0, none⟩ = false := frozen_of_row _ _ _ _ _ g2
  have f1 : w1.frozen? ⟨w.heap.size + 2, 1, none⟩ = false := frozen_of_row _ _ _ _ _ g2
  have d0 : w1.cell? ⟨w.heap.size + 2, 0, none⟩ = some (.int .u32 0) := cellAt g2 rfl
  have d1 : w1.cell? ⟨w.heap.size + 2, 1, none⟩ = some (.int .u32 0) := cellAt g2 rfl
  have hke : ∀ a b : Value, Below w.heap.size w ((w1.setCell ⟨w.heap.size + 2, 0, none⟩ a).setCell ⟨w.heap.size + 2, 1, none⟩ b) := fun a b => HB1.out.trans ((((Kept.refl w1 (fun k => k = w.heap.size + 2)).setCell ⟨w.heap.size + 2, 0, none⟩ a (fun _ => rfl)).setCell ⟨w.heap.size + 2, 1, none⟩ b (fun _ => rfl)).below HB1.out.size (fun k e => by omega))
  have hks : ∀ (a b : Value) (u : Value) (m : List TxD), SeesTxs w u m → SeesTxs ((w1.setCell ⟨w.heap.size + 2, 0, none⟩ a).setCell ⟨w.heap.size + 2, 1, none⟩ b) u m := fun a b u m hu => hu.below (hke a b) (Nat.le_refl _)
  have HKE : Hid _ := hke
  have HKS : Hid _ := hks
  have hup := upN_le pe pn l
  obtain ⟨k, hk⟩ : ∃ k, k = upN pe pn l := ⟨_, rfl⟩
  rw [← hk] at hup ⊢
  have HK : Hid _ := hk
  clear b1 HE hk hke hks
  by_cases hz : k = 0
  · subst hz
    have HL : Hid (lstE se l 0 = se ∧ lstN sn l 0 = sn) := ⟨lstE_zero _ _, lstN_zero _ _⟩
    go_wp2_with fail
    refine bodyPost_ret (v := .tuple #[zx se sn, .slice ao l.length cap]) (by simp [results, Tryz.results32, go_sem, d0, d1]) rfl ⟨_, by rw [← HK.out, HL.out.1, HL.out.2], by rw [← HK.out, List.drop_zero]; exact HKS.out _ _ _ _ H.out.1, HKE.out _ _⟩
  · obtain ⟨j, rfl⟩ : ∃ j, k = j + 1 := ⟨k - 1, by omega⟩
    have hj : j < l.length := by omega
    have hjj : ((j + 1 : Nat) : Int) = (j : Int) + 1 := by omega
    have hne : decide ((j : Int) + 1 = 0) = false := by simp; omega
    obtain ⟨b, off, cap', rc, hv, _, _, _, hat⟩ := txs_at HS1.out j hj
    simp at hv
    obtain ⟨rfl, rfl⟩ := hv
    have e0 : w1.cell? ⟨b, off + j * 16, none⟩ = some (.int .u32 l[j].ep) := hat 0 (by omega)
    have e1 : w1.cell? ⟨b, off + j * 16 + 1, none⟩ = some (.int .u32 l[j].n) := hat 1 (by omega)
    have hsl : ∀ w, (Instr.slice 25 (.slice (some ⟨b, off, none⟩) l.length cap) (some (.int .i64 ((j : Int) + 1))) none none).run Tryz.prog w = .ok (sliced (some ⟨b, off, none⟩) (j + 1) l.length cap 16) w := fun w => by
      have := run_fromK (some ⟨b, off, none⟩) l.length cap (j + 1) (by omega) w
      rw [hjj] at this
      exact this
    have HL : Hid (lstE se l (j + 1) = l[j].ep ∧ lstN sn l (j + 1) = l[j].n) := ⟨lstE_next _ _ _ hj, lstN_next _ _ _ hj⟩
    have HC : Hid (SeesTxs w (sliced (some ⟨b, off, none⟩) (j + 1) l.length cap 16) (l.drop (j + 1))) := by
      have := seesTxs_cut H.out.1 (j + 1) l.length (by omega) (Nat.le_refl _)
      rwa [List.take_length] at this
    generalize sliced (some ⟨b, off, none⟩) (j + 1) l.length cap 16 = P1 at *
    clear hat hjj
    go_wp2_with fail
    go_region
    go_wp2_with fail
    refine bodyPost_ret (v := .tuple #[zx l[j].ep l[j].n, P1]) (by simp [results, Tryz.results32, go_sem, d0, d1]) rfl ⟨_, by rw [← HK.out, HL.out.1, HL.out.2], by rw [← HK.out]; exact HC.out.below (below_drewN (HKE.out _ _) 1) (Nat.le_refl _), below_drewN (HKE.out _ _) 1⟩

/-- What Way answers, as data. -/
structure ChD where
  way : Int
  fe : Int
  fn : Int
  near : Bool
  err : Int

/-- How transactions are sent. -/
def sendW (same : Bool) (rest : Nat) : Int := if same then 1 else if rest = 0 then 2 else 3

def chN (pe pn se sn : Int) (l : List TxD) (ca im : Int) (x : Nat) (k : Nat) : ChD :=
  if ((l.length - k : Nat) : Int) ≤ ca then ⟨sendW (decide (lstE se l k = pe ∧ lstN sn l k = pn)) (l.length - k), lstE se l k, lstN sn l k, true, 0⟩
  else if undB (szL (l.drop k)) im x then ⟨sendW (decide (lstE se l k = pe ∧ lstN sn l k = pn)) (l.length - k), lstE se l k, lstN sn l k, false, 0⟩
  else ⟨4, 0, 0, false, 0⟩

def chW (pe pn se sn : Int) (l : List TxD) (ca im : Int) (x : Nat) : ChD :=
  if rises se sn l = false ∨ ca < 0 ∨ (l.length : Int) < ca ∨ im < 0 then ⟨0, 0, 0, false, 1⟩
  else if zcmp pe pn se sn < 0 then ⟨4, 0, 0, false, 0⟩
  else chN pe pn se sn l ca im x (upN pe pn l)

abbrev ChD.val (c : ChD) : Value := .agg #[.int .i8 c.way, .int .u32 c.fe, .int .u32 c.fn, .bool c.near]
end Go.Proofs.YtobnggkgpenmfaaGreatDoor

/- Do zxids rise: what a loop over them answers. -/
namespace Go.Proofs.YtobnggkgpenmfaaGreatDoor
open Go.RowKit
set_option maxRecDepth 8000

theorem refRises14_any_zflip (e n f m : Int) : decide (0 < zcmp f m e n) = decide (zcmp e n f m = -1) := by
  unfold zcmp
  by_cases h1 : e < f ∨ (e = f ∧ n < m)
  · rw [if_pos h1, if_neg (by omega), if_neg (by omega)]; rfl
  · rw [if_neg h1]
    by_cases h2 : e = f ∧ n = m
    · rw [if_pos h2, if_neg (by omega), if_pos (by omega)]; rfl
    · rw [if_neg h2, if_pos (by omega)]; rfl

set_option maxHeartbeats 2000000 in
theorem refRises14_any (e n : Int) (v : Value) (l : List TxD) (w : World) (h : SeesTxs w v l) :
    Calls Tryz.prog 22 #[zx e n, v] w fun r w' => r = .returned (.bool (rises e n l)) ∧ Below w.heap.size w w' := by
  obtain ⟨ao, cap, rfl, hlc, hcm⟩ := txs_shape h
  have H : Hid (SeesTxs w (.slice ao l.length cap) l) := h
  unfold maxLen at hcm
  clear h
  go_enter Tryz.func22, Tryz.ntmps22
  go_wp2_with fail
  go_loopw [4, 5] (fun _ i wr => ∃ (k : Nat) (ea na : Int), k ≤ l.length ∧ i = .int .i64 k ∧ Hid (rises e n l = rises ea na (l.drop k)) ∧ Hid (Below w.heap.size w wr ∧ wr.heap[w.heap.size]? = some (.cells #[.int .u32 ea, .int .u32 na] 24 (0, 0)))) (fun _ i _ => l.length - (intOf i).toNat)
  case atStart => exact ⟨0, e, n, Nat.zero_le _, rfl, rfl, one_alloc _ _, heap_alloc_new _ _⟩
  case round =>
    obtain ⟨k, ea, na, hk, rfl, HQ, HB⟩ := hrel
    by_cases hlt : k < l.length
    · have hd : l.drop k = l[k] :: l.drop (k + 1) := List.drop_eq_getElem_cons hlt
      have HR : Hid (rises e n l = (decide (0 < zcmp l[k].ep l[k].n ea na) && rises l[k].ep l[k].n (l.drop (k + 1)))) := by show rises e n l = _; rw [HQ.out, hd]; rfl
      obtain ⟨b, off, cap', rc, hv, _, _, _, hat⟩ := txs_at (H.out.below HB.out.1 (Nat.le_refl _)) k hlt
      simp at hv
      obtain ⟨rfl, rfl⟩ := hv
      have HS : Hid (∀ W, Below wr.heap.size wr W → W.cell? ⟨w.heap.size, 0, none⟩ = some (.int .u32 ea) ∧ W.cell? ⟨w.heap.size, 1, none⟩ = some (.int .u32 na) ∧ W.cell? ⟨b, off + k * 16, none⟩ = some (.int .u32 l[k].ep) ∧ W.cell? ⟨b, off + k * 16 + 1, none⟩ = some (.int .u32 l[k].n)) := fun W hW =>
        ⟨cell_later (cellAt HB.out.2 rfl) hW (Nat.le_refl _), cell_later (cellAt HB.out.2 rfl) hW (Nat.le_refl _), cell_later (hat 0 (by omega)) hW (Nat.le_refl _), cell_later (hat 1 (by omega)) hW (Nat.le_refl _)⟩
      clear hd hat HQ
      generalize l[k] = t at *
      go_upto_region 4 with fail
      refine wp_region_held_drew (S := (fun W => W.cell? ⟨w.heap.size, 0, none⟩ = some (.int .u32 ea) ∧ W.cell? ⟨w.heap.size, 1, none⟩ = some (.int .u32 na) ∧ W.cell? ⟨b, off + k * 16, none⟩ = some (.int .u32 t.ep) ∧ W.cell? ⟨b, off + k * 16 + 1, none⟩ = some (.int .u32 t.n))) (by kernel_rfl) ?_ (fun hHeld => ?_)
      · exact HS.out _ (below_drewN (Below.refl _ _) 1)
      refine wpAnyH_take (i := 0) (oi := { dst := some 12, op := Op.load 24 (Operand.tmp 2), type := 24, pos := "ref.go:31", after := #[], guard := none }) (v := ?_) rfl (by kernel_rfl) (by kernel_rfl) (by kernel_rfl) (fun _ _ _ h => h) (Or.inl ⟨by rfl, ?_⟩) (by assumption) ?_
      rotate_left
      · (intro w hSw; (try dsimp only at hSw); go_simp) <;> with_reducible rfl
      try simp only [Act.put, List.setIfInBounds_toArray, List.set_cons_zero, List.set_cons_succ]
      refine wpAnyH_take (i := 1) (oi := { dst := some 13, op := Op.move (Operand.tmp 1), type := 25, pos := "ref.go:31", after := #[], guard := none }) (v := ?_) rfl (by kernel_rfl) (by kernel_rfl) (by kernel_rfl) (fun _ _ _ h => h) (Or.inl ⟨by rfl, ?_⟩) (by assumption) ?_
      rotate_left
      · (intro w hSw; (try dsimp only at hSw); go_simp) <;> with_reducible rfl
      try simp only [Act.put, List.setIfInBounds_toArray, List.set_cons_zero, List.set_cons_succ]
      refine wpAnyH_take (i := 2) (oi := { dst := some 14, op := Op.move (Operand.tmp 5), type := 3, pos := "ref.go:31", after := #[], guard := none }) (v := ?_) rfl (by kernel_rfl) (by kernel_rfl) (by kernel_rfl) (fun _ _ _ h => h) (Or.inl ⟨by rfl, ?_⟩) (by assumption) ?_
      rotate_left
      · (intro w hSw; (try dsimp only at hSw); go_simp) <;> with_reducible rfl
      try simp only [Act.put, List.setIfInBounds_toArray, List.set_cons_zero, List.set_cons_succ]
      refine wpAnyH_take (i := 3) (oi := { dst := some 15, op := Op.indexAddr 25 (Operand.tmp 13) (Operand.tmp 14), type := 0, pos := "ref.go:31", after := #[{ on := 1, ground := Ground.data }, { on := 2, ground := Ground.data }], guard := none }) (v := ?_) rfl (by kernel_rfl) (by kernel_rfl) (by kernel_rfl) (fun _ _ _ h => h) (Or.inl ⟨by rfl, ?_⟩) (by assumption) ?_
      rotate_left
      · (intro w hSw; (try dsimp only at hSw); go_simp) <;> with_reducible rfl
      try simp only [Act.put, List.setIfInBounds_toArray, List.set_cons_zero, List.set_cons_succ]
      refine wpAnyH_take (i := 4) (oi := { dst := some 16, op := Op.fieldAddr 49 (Operand.tmp 15) 0, type := 0, pos := "ref.go:31", after := #[{ on := 3, ground := Ground.data }], guard := none }) (v := ?_) rfl (by kernel_rfl) (by kernel_rfl) (by kernel_rfl) (fun _ _ _ h => h) (Or.inl ⟨by rfl, ?_⟩) (by assumption) ?_
      rotate_left
      · (intro w hSw; (try dsimp only at hSw); go_simp) <;> with_reducible rfl
      try simp only [Act.put, List.setIfInBounds_toArray, List.set_cons_zero, List.set_cons_succ]
      refine wpAnyH_take (i := 5) (oi := { dst := some 17, op := Op.load 24 (Operand.tmp 16), type := 24, pos := "ref.go:31", after := #[{ on := 4, ground := Ground.data }], guard := none }) (v := ?_) rfl (by kernel_rfl) (by kernel_rfl) (by kernel_rfl) (fun _ _ _ h => h) (Or.inl ⟨by rfl, ?_⟩) (by assumption) ?_
      rotate_left
      · (intro w hSw; (try dsimp only at hSw); go_simp) <;> with_reducible rfl
      try simp only [Act.put, List.setIfInBounds_toArray, List.set_cons_zero, List.set_cons_succ]
      refine wpAnyH_ready (rs := [6]) (by kernel_rfl) (by simp) ?_
      refine AllReadyH.cons (o := { dst := some 18, op := Op.call { callee := Callee.value (Operand.func 23), args := #[Operand.tmp 12, Operand.tmp 17], argTypes := #[24, 24] }, type := 3, pos := "ref.go:31", after := #[{ on := 0, ground := Ground.data }, { on := 5, ground := Ground.data }], guard := none }) rfl (fun K hK => ?_) AllReadyH.nil
      go_simp
      refine (refCompare_any ea na t.ep t.n _).mono ?_
      rintro _ w1 ⟨rfl, b1⟩
      have HB1 : Hid (Below wr.heap.size wr w1) := (below_drewN (Below.refl wr.heap.size wr) 1).trans b1
      clear b1
      refine hK.out _ _ (HS.out _ HB1.out) (fun hHeld => ?_)
      clear hK K
      refine wpAnyH_take (i := 7) (oi := { dst := some 19, op := Op.binOp BinOp.geq 3 (Operand.tmp 18) (Operand.const (Value.int IntKind.i64 0)) 3, type := 4, pos := "ref.go:31", after := #[{ on := 6, ground := Ground.data }], guard := none }) (v := ?_) rfl (by kernel_rfl) (by kernel_rfl) (by kernel_rfl) (fun _ _ _ h => h) (Or.inl ⟨by rfl, ?_⟩) (by assumption) ?_
      rotate_left
      · (intro w hSw; (try dsimp only at hSw); go_simp) <;> with_reducible rfl
      try simp only [Act.put, List.setIfInBounds_toArray, List.set_cons_zero, List.set_cons_succ]
      refine wpAnyH_done (by kernel_rfl) ?_ _
      obtain ⟨x0, x1, g0, g1⟩ := hHeld
      have HF : Hid (Below w.heap.size w w1 ∧ w1.heap[w.heap.size]? = some (.cells #[.int .u32 ea, .int .u32 na] 24 (0, 0))) := ⟨HB.out.1.trans (HB1.out.mono HB.out.1.size), (Below.kept HB1.out).heap HB.out.2 (by have := lt_of_block HB.out.2; omega)⟩
      have f0 : w1.frozen? ⟨w.heap.size, 0, none⟩ = false := frozen_of_row _ _ _ _ _ HF.out.2
      have f1 : w1.frozen? ⟨w.heap.size, 1, none⟩ = false := frozen_of_row _ _ _ _ _ HF.out.2
      clear HB1 HB HS
      by_cases hc : zcmp ea na t.ep t.n = -1
      · have HT : Hid (decide (0 < zcmp t.ep t.n ea na) = true) := by show decide _ = true; rw [refRises14_any_zflip, hc]; rfl
        have hc' : decide (0 ≤ zcmp ea na t.ep t.n) = false := by rw [hc]; rfl
        clear hc
        generalize hZ : decide (0 ≤ zcmp ea na t.ep t.n) = Z at *
        clear hZ
        subst hc'
        go_wp2_with fail
        go_roundw
        case rel =>
          refine ⟨k + 1, t.ep, t.n, by omega, by go_num, by show rises e n l = _; rw [HR.out, HT.out]; rfl, ?_, ?_⟩
          · refine HF.out.1.trans (((Kept.refl w1 (fun k => k = w.heap.size)).setCell ⟨w.heap.size, 0, none⟩ _ (fun _ => rfl)).setCell ⟨w.heap.size, 1, none⟩ _ (fun _ => rfl) |>.below HF.out.1.size (fun k e => by omega))
          · rw [heap_setR _ (heap_setR _ HF.out.2)]; rfl
        case measure => simp [intOf]; omega
      · have HT : Hid (decide (0 < zcmp t.ep t.n ea na) = false) := by show decide _ = false; rw [refRises14_any_zflip]; exact decide_eq_false hc
        have hc' : decide (0 ≤ zcmp ea na t.ep t.n) = true := by
          apply decide_eq_true
          have : zcmp ea na t.ep t.n = -1 ∨ zcmp ea na t.ep t.n = 0 ∨ zcmp ea na t.ep t.n = 1 := by
            unfold zcmp
            split
            · exact .inl rfl
            · split
              · exact .inr (.inl rfl)
              · exact .inr (.inr rfl)
          omega
        clear hc
        generalize hZ : decide (0 ≤ zcmp ea na t.ep t.n) = Z at *
        clear hZ
        subst hc'
        go_wp2_with fail
        go_ret
        exact ⟨by rw [HR.out, HT.out]; rfl, HF.out.1⟩
    · obtain rfl : k = l.length := by omega
      have HR : Hid (rises e n l = true) := by show rises e n l = true; rw [HQ.out, List.drop_length]; rfl
      have HB' : Hid (Below w.heap.size w wr) := HB.out.1
      clear HQ HB
      go_wp2_with fail
      go_ret
      exact ⟨by rw [HR.out]; rfl, HB'.out⟩
end Go.Proofs.YtobnggkgpenmfaaGreatDoor

/- What the document's own Bits (lagoonref01) answers: a float's bits, and of everything that is not a number the one form. -/
namespace Go.Proofs.YtobnggkgpenmfaaGreatDoor
open Ieee
open Go.RowKit (intOf Hid)
set_option maxRecDepth 8000

theorem read_neg (y : Nat) (h : y < 9223372036854775808) : double.read (9223372036854775808 + y) = (double.read y).opposite := by
  unfold Format.read
  simp only [dSign, dBin, dInf, dLeast]
  have e1 : (9223372036854775808 + y) / 9223372036854775808 = 1 := by omega
  have e2 : (9223372036854775808 + y) % 9223372036854775808 = y := by omega
  have e3 : y / 9223372036854775808 = 0 := by omega
  have e4 : y % 9223372036854775808 = y := by omega
  rw [e1, e2, e3, e4]
  by_cases c1 : y < 4503599627370496
  · rw [if_pos c1, if_pos c1]; rfl
  · rw [if_neg c1, if_neg c1]
    by_cases c2 : y < 9218868437227405312
    · rw [if_pos c2, if_pos c2]; rfl
    · rw [if_neg c2, if_neg c2]
      by_cases c3 : y = 9218868437227405312
      · rw [if_pos c3, if_pos c3]; rfl
      · rw [if_neg c3, if_neg c3]; rfl

/-- Every word of a number that is neither nought nor infinite, without its sign. -/
theorem wd_of (y : Nat) (h : y < 9218868437227405312) : ∃ q m, Can q m ∧ y = wd q m := by
  by_cases c : y < 9007199254740992
  · exact ⟨0, y, ⟨by omega, c, .inl rfl⟩, by unfold wd; omega⟩
  · exact ⟨y / 4503599627370496 - 1, 4503599627370496 + y % 4503599627370496, ⟨by omega, by omega, .inr (by omega)⟩, by unfold wd; omega⟩

theorem can_nought : Can 0 0 := ⟨by omega, by omega, .inl rfl⟩
theorem nought_wd : (0 : Nat) = wd 0 0 := by decide

theorem cmp_lt {a b : Nat} (h : a < b) : compare a b = .lt := by simp [Nat.compare_eq_lt, h]
theorem cmp_gt {a b : Nat} (h : b < a) : compare a b = .gt := by simp [Nat.compare_eq_gt, h]

theorem order_lt {q m q' m' : Nat} (h : Can q m) (h' : Can q' m') (hl : wd q m < wd q' m') : double.order (wd q m) (wd q' m') = some .lt := by rw [order_wd h h', cmp_lt hl]
theorem order_gt {q m q' m' : Nat} (h : Can q m) (h' : Can q' m') (hl : wd q' m' < wd q m) : double.order (wd q m) (wd q' m') = some .gt := by rw [order_wd h h', cmp_gt hl]
theorem order_self {q m : Nat} (h : Can q m) : double.order (wd q m) (wd q m) = some .eq := by rw [order_wd h h]; simp

theorem order_neg {q m : Nat} (h : Can q m) (hm : m ≠ 0) : double.order (9223372036854775808 + wd q m) 0 = some .lt := by
  have hw : wd q m < 9223372036854775808 := by obtain ⟨h1, h2, h3⟩ := h; unfold wd; omega
  unfold Format.order
  rw [read_neg _ hw, read_wd h]
  have h0 := read_wd can_nought
  rw [← nought_wd] at h0
  rw [h0]
  simp only [Datum.opposite, Datum.order]
  refine congrArg some ?_
  have e1 : ((q : Int) - 1074 - min ((q : Int) - 1074) (((0 : Nat) : Int) - 1074)).toNat = q := by omega
  rw [e1]
  have hp : 0 < m * 2 ^ q := Nat.mul_pos (by omega) (Nat.two_pow_pos q)
  have : Ieee.signed (!false) m q < Ieee.signed false 0 ((((0 : Nat) : Int) - 1074 - min ((q : Int) - 1074) (((0 : Nat) : Int) - 1074)).toNat) := by
    simp only [Ieee.signed, Bool.not_false, if_true, Bool.false_eq_true, if_false, Nat.shiftLeft_eq, Nat.zero_mul]
    omega
  simp only [compare, compareOfLessAndEq]
  rw [if_pos this]

theorem order_neg_self {q m : Nat} (h : Can q m) : double.order (9223372036854775808 + wd q m) (9223372036854775808 + wd q m) = some .eq := by
  have hw : wd q m < 9223372036854775808 := by obtain ⟨h1, h2, h3⟩ := h; unfold wd; omega
  unfold Format.order
  rw [read_neg _ hw, read_wd h]
  simp only [Datum.opposite, Datum.order]
  refine congrArg some ?_
  simp only [compare, compareOfLessAndEq]
  simp

theorem neg_xor (y : Nat) (h : y < 9223372036854775808) : Op.negFloat .f64 (9223372036854775808 + y) = y := by
  unfold Op.negFloat
  have e : 2 ^ (FloatKind.f64.format.exponentBits + FloatKind.f64.format.fractionBits) = 9223372036854775808 := by decide
  rw [e]
  have e1 : (9223372036854775808 : Nat) = 2 ^ 63 := by decide
  have e2 : 9223372036854775808 + y = 9223372036854775808 ||| y := (nat_join 63 9223372036854775808 y (by decide) (by omega)).symm
  rw [e2, e1]
  apply Nat.eq_of_testBit_eq
  intro i
  rw [Nat.testBit_xor, Nat.testBit_or, Nat.testBit_two_pow]
  by_cases hi : 63 = i
  · subst hi
    rw [Nat.testBit_lt_two_pow (by omega)]
    simp
  · simp [hi]

section
variable (w : World)

end
end Go.Proofs.YtobnggkgpenmfaaGreatDoor

/- The document's own Bits at numbers that are neither nought nor infinite, from the least exponent on: their bits. -/
namespace Go.Proofs.YtobnggkgpenmfaaGreatDoor
open Ieee
open Go.RowKit (intOf Hid)
set_option maxRecDepth 8000

theorem mul_over {m : Nat} (hm : 4503599627370496 ≤ m) (h2 : m < 9007199254740992) : double.mul (wd 2045 m) 4611686018427387904 = some 9218868437227405312 := by
  unfold Format.mul
  rw [two_wd, read_wd ⟨by omega, h2, .inr hm⟩, read_wd can_two]
  simp only [Datum.product, Option.map_some, Format.write]
  refine congrArg some ?_
  have e : (4503599627370496 : Nat) = 2 ^ 52 := by decide
  have hl : m.log2 = 52 := (Nat.log2_eq_iff (by omega)).2 ⟨by omega, by omega⟩
  have hl2 : (m * 4503599627370496).log2 = 104 := by rw [e, log2_shift m 52 (by omega), hl]
  unfold Format.nearest
  rw [if_neg (by omega)]
  simp only [dLeast, dFrac, dBin, dInf]
  rw [hl2]
  have hx : max (((2045 : Nat) : Int) - 1074 + (((1023 : Nat) : Int) - 1074) + ((104 : Nat) : Int) - ((52 : Nat) : Int)) (-1074) = 972 := by decide
  rw [hx]
  have e1 : (((2045 : Nat) : Int) - 1074 + (((1023 : Nat) : Int) - 1074) - 972).toNat = 0 := by decide
  have e2 : ((972 : Int) - (((2045 : Nat) : Int) - 1074 + (((1023 : Nat) : Int) - 1074))).toNat = 52 := by decide
  have e3 : ((972 : Int) - -1074).toNat = 2046 := by decide
  have c := cut_exact m 52 (by omega)
  rw [← e] at c
  rw [show (false ^^ false) = false from rfl, e1, e2, e3, Nat.shiftLeft_zero, c, Nat.min_eq_right (by omega)]
  rfl

theorem inf_order {q m : Nat} (h : Can q m) : double.order 9218868437227405312 (wd q m) = some .gt := by
  have hr : double.read 9218868437227405312 = .infinity false := by decide
  unfold Format.order
  rw [hr, read_wd h]
  rfl

/-- Twice a number that is neither nought nor infinite is another one. -/
theorem twice {q m : Nat} (h : Can q m) (hm : m ≠ 0) : ∃ z, double.mul (wd q m) 4611686018427387904 = some z ∧ double.order z (wd q m) = some .gt := by
  obtain ⟨h1, h2, h3⟩ := h
  by_cases c : 4503599627370496 ≤ m
  · by_cases c2 : q + 1 ≤ 2045
    · exact ⟨_, mul_two ⟨h1, h2, h3⟩ c c2, order_gt ⟨c2, h2, .inr c⟩ ⟨h1, h2, h3⟩ (by unfold wd; omega)⟩
    · obtain rfl : q = 2045 := by omega
      exact ⟨_, mul_over c h2, inf_order ⟨h1, h2, h3⟩⟩
  · obtain rfl : q = 0 := by omega
    exact ⟨_, mul_two_sub (by omega) hm, order_gt ⟨by omega, by omega, .inl rfl⟩ ⟨h1, h2, h3⟩ (by unfold wd; omega)⟩

theorem ge_two {q m : Nat} (h : Can q m) (hq : 1023 ≤ q) : (FloatKind.f64.format.order (wd q m) 4611686018427387904 == some .gt || FloatKind.f64.format.order (wd q m) 4611686018427387904 == some .eq) = true := by
  have e : FloatKind.f64.format.order (wd q m) 4611686018427387904 = some (compare (wd q m) 4611686018427387904) := by
    show double.order _ _ = _
    rw [two_wd]; exact order_wd h can_two
  rw [e]
  obtain ⟨h1, h2, h3⟩ := h
  have : 4611686018427387904 ≤ wd q m := by unfold wd; omega
  by_cases c : 4611686018427387904 < wd q m
  · rw [cmp_gt c]; rfl
  · have e2 : wd q m = 4611686018427387904 := by omega
    rw [e2]; decide

theorem lt_two {q m : Nat} (h : Can q m) (hq : q < 1023) : (FloatKind.f64.format.order (wd q m) 4611686018427387904 == some .gt || FloatKind.f64.format.order (wd q m) 4611686018427387904 == some .eq) = false := by
  have e : FloatKind.f64.format.order (wd q m) 4611686018427387904 = some .lt := by
    show double.order _ _ = _
    rw [two_wd]
    obtain ⟨h1, h2, h3⟩ := h
    exact order_lt ⟨h1, h2, h3⟩ can_two (by unfold wd; omega)
  rw [e]; rfl

theorem lt_one {q m : Nat} (h : Can q m) (hq : q < 1022) : (FloatKind.f64.format.order (wd q m) 4607182418800017408 == some .lt) = true := by
  have e : FloatKind.f64.format.order (wd q m) 4607182418800017408 = some .lt := by
    show double.order _ _ = _
    rw [one_wd]
    obtain ⟨h1, h2, h3⟩ := h
    exact order_lt ⟨h1, h2, h3⟩ can_one (by unfold wd; omega)
  rw [e]; rfl

theorem ge_one {m : Nat} (h : Can 1022 m) : (FloatKind.f64.format.order (wd 1022 m) 4607182418800017408 == some .lt) = false := by
  have e : FloatKind.f64.format.order (wd 1022 m) 4607182418800017408 = some (compare (wd 1022 m) 4607182418800017408) := by
    show double.order _ _ = _
    rw [one_wd]; exact order_wd h can_one
  rw [e]
  obtain ⟨h1, h2, h3⟩ := h
  have hge : 4607182418800017408 ≤ wd 1022 m := by unfold wd; omega
  by_cases c : 4607182418800017408 < wd 1022 m
  · rw [cmp_gt c]; rfl
  · have e2 : wd 1022 m = 4607182418800017408 := by omega
    rw [e2]; decide

/-- What stands behind the point of a number from 1 to 2: its fraction. -/
theorem frac_of {m : Nat} (h0 : 4503599627370496 ≤ m) (h1 : m < 9007199254740992) : ∃ a b, double.sub (wd 1022 m) 4607182418800017408 = some a ∧ double.mul a 4841369599423283200 = some b ∧ floatToIntVal .f64 b .u64 = some ((m - 4503599627370496 : Nat) : Int) := by
  by_cases c : m = 4503599627370496
  · subst c
    exact ⟨0, 0, sub_one_nought, mul_nought, int_nought⟩
  · have := scale_back (f := m - 4503599627370496) (by omega) (by omega)
    exact ⟨_, _, sub_one (by omega) h1, this.1, this.2⟩

theorem ret_u64 {a b : Int} (h : a = b) : Ending.returned (.int .u64 a) = .returned (.int .u64 b) := by rw [h]

theorem gt_nought {q m : Nat} (h : Can q m) (hm : m ≠ 0) : double.order (wd q m) 0 = some .gt := by
  have hl : wd 0 0 < wd q m := by
    have e : wd 0 0 = 0 := by decide
    rw [e]
    unfold wd
    omega
  have := order_gt h can_nought hl
  rw [← nought_wd] at this
  exact this

/-- The word in a slot: for a loop's measure. -/
def wordOf : Value → Nat
  | .float _ b => b
  | _ => 0

/-- What a number below the least exponent is behind k doublings. -/
def sq (m k : Nat) : Nat := k - (52 - m.log2)
def sm (m k : Nat) : Nat := m * 2 ^ (min k (52 - m.log2))

theorem log2_sub {m : Nat} (h0 : m ≠ 0) (h1 : m < 4503599627370496) : m.log2 ≤ 51 := by have := (Nat.log2_lt h0 (k := 52)).2 (by omega); omega

theorem sm_top {m k : Nat} (hk : 52 - m.log2 ≤ k) : sm m k = m * 2 ^ (52 - m.log2) := by unfold sm; rw [Nat.min_eq_right hk]

theorem sm_low {m k : Nat} (hk : k ≤ 52 - m.log2) : sm m k = m * 2 ^ k := by unfold sm; rw [Nat.min_eq_left hk]

theorem sm_small {m k : Nat} (h0 : m ≠ 0) (h1 : m < 4503599627370496) (hk : k < 52 - m.log2) : sm m k < 4503599627370496 ∧ sm m k ≠ 0 := by
  have hL := log2_sub h0 h1
  rw [sm_low (by omega)]
  have a1 : m < 2 ^ (m.log2 + 1) := Nat.lt_log2_self
  have a2 : m * 2 ^ k < 2 ^ (m.log2 + 1) * 2 ^ k := Nat.mul_lt_mul_of_pos_right a1 (Nat.two_pow_pos _)
  rw [← Nat.pow_add] at a2
  have a3 : 2 ^ (m.log2 + 1 + k) ≤ 2 ^ 52 := Nat.pow_le_pow_right (by omega) (by omega)
  have a4 : (2 : Nat) ^ 52 = 4503599627370496 := by decide
  have a5 : m * 2 ^ k ≠ 0 := Nat.mul_ne_zero h0 (by have := Nat.two_pow_pos k; omega)
  exact ⟨by omega, a5⟩

theorem sub_can {m k : Nat} (h0 : m ≠ 0) (h1 : m < 4503599627370496) (hk : k ≤ 1022) : Can (sq m k) (sm m k) := by
  have hL := log2_sub h0 h1
  by_cases c : k < 52 - m.log2
  · have := sm_small h0 h1 c
    exact ⟨by unfold sq; omega, by omega, .inl (by unfold sq; omega)⟩
  · rw [sm_top (by omega)]
    exact ⟨by unfold sq; omega, up_lt (by omega), .inr (up_ge h0 (by omega))⟩

theorem sub_step {m k : Nat} (h0 : m ≠ 0) (h1 : m < 4503599627370496) (hk : k < 1022) : double.mul (wd (sq m k) (sm m k)) 4611686018427387904 = some (wd (sq m (k + 1)) (sm m (k + 1))) := by
  have hL := log2_sub h0 h1
  by_cases c : k < 52 - m.log2
  · have hs := sm_small h0 h1 c
    have e1 : sq m k = 0 := by unfold sq; omega
    have e2 : sq m (k + 1) = 0 := by unfold sq; omega
    have e3 : sm m (k + 1) = 2 * sm m k := by
      rw [sm_low (by omega), sm_low (by omega), Nat.pow_succ, ← Nat.mul_assoc, Nat.mul_comm]
    rw [e1, e2, e3]
    exact mul_two_sub hs.1 hs.2
  · have e1 : sq m (k + 1) = sq m k + 1 := by unfold sq; omega
    have e2 : sm m (k + 1) = sm m k := by rw [sm_top (by omega), sm_top (by omega)]
    rw [e1, e2]
    exact mul_two (sub_can h0 h1 (by omega)) (by rw [sm_top (by omega)]; exact up_ge h0 (by omega)) (by unfold sq; omega)

theorem sub_end {m k : Nat} (h0 : m ≠ 0) (h1 : m < 4503599627370496) (hk : k = 1022) : ∃ b, double.mul (wd (sq m k) (sm m k)) 4841369599423283200 = some b ∧ floatToIntVal .f64 b .u64 = some (m : Int) := by
  have hL := log2_sub h0 h1
  have e1 : sq m k = 970 + m.log2 := by unfold sq; omega
  rw [e1, sm_top (by omega)]
  have := scale_back h0 h1
  exact ⟨_, this.1, this.2⟩

theorem sub_start (m : Nat) : sq m 0 = 0 ∧ sm m 0 = m := by
  constructor
  · unfold sq; omega
  · unfold sm; simp

end Go.Proofs.YtobnggkgpenmfaaGreatDoor

/- What the document's own bytes of whole numbers are: digits and Int32 of lagoonref01. -/
namespace Go.Proofs.YtobnggkgpenmfaaGreatDoor
open Go.RowKit
set_option maxRecDepth 8000

/-- The lowest m digits to the base 256, the highest first. -/
def digs : Nat → Int → List Int
  | 0, _ => []
  | m + 1, n => digs m (n / 256) ++ [n % 256]

theorem digs_len (m : Nat) (n : Int) : (digs m n).length = m := by
  induction m generalizing n with
  | zero => rfl
  | succ m ih => simp [digs, ih]

theorem digs_byts (m : Nat) (n : Int) : Byts (digs m n) := by
  induction m generalizing n with
  | zero => intro x hx; simp [digs] at hx
  | succ m ih =>
    refine (ih _).append ?_
    intro x hx
    simp at hx
    omega

theorem digs4 (n : Int) (h0 : 0 ≤ n) (h1 : n < 4294967296) : digs 4 n = be4 n := by
  simp only [digs, be4, List.nil_append, List.cons_append, List.cons.injEq, and_true]
  omega

theorem digs8 (n : Int) (h0 : 0 ≤ n) (h1 : n ≤ 18446744073709551615) : digs 8 n = be8 n := by
  simp only [digs, be8, be4, List.nil_append, List.cons_append, List.cons.injEq, and_true]
  omega

theorem drop_set {zs : List Int} {k : Nat} (x : Int) (hk : k < zs.length) : (zs.set k x).drop k = x :: zs.drop (k + 1) := by
  rw [List.drop_eq_getElem_cons (by simpa using hk), List.drop_set_of_lt (by omega)]
  simp

set_option maxHeartbeats 400000 in
theorem digits_any (n : Int) (m : Nat) (w : World) (hm : m ≤ 8) (h0 : 0 ≤ n) (h1 : n ≤ 18446744073709551615) :
    Calls Tryz.prog 85 #[.int .u64 n, .int .i64 m] w fun e w' => ∃ v', e = .returned v' ∧ Owns w' w.heap.size v' (digs m n) ∧ Below w.heap.size w w' := by
  obtain ⟨i0, hi, hz0, hz1, hz2⟩ := info_parts Tryz.infoByte
  go_enter Tryz.func85, Tryz.ntmps85
  go_wp2_with (at_make; refine wpList_make_full _ rfl _ _ 42 rfl w.heap.size 5 i0 (.int .u8 0) 1 Tryz.underlying42 hi hz0 hz1 .i64 .i64 _ _ m rfl rfl (by omega) (by omega) (by rw [hz2]; omega) (by unfold maxLen; omega) (Nat.le_refl _) ?_)
  intro w0 hown0 hgrow0
  have hown1 := made_owns hown0
  have hbel0 : Below w.heap.size w w0 := (Below.refl _ _).grown hgrow0 (Nat.le_refl _) (fun k hk => by simp at hk)
  have HO1 : Hid (Owns w0 w.heap.size (.slice (some ⟨w.heap.size, 0, none⟩) (List.replicate m (0 : Int)).length m) (List.replicate m 0)) := hown1
  clear hown0 hgrow0 hown1
  go_wp2
  go_loopw [0, 6] (fun q i wr => ∃ (k : Nat) (c : Int) (zs : List Int), k ≤ m ∧ 0 ≤ c ∧ c ≤ 18446744073709551615 ∧ q = .int .u64 c ∧ i = .int .i64 (k - 1) ∧ zs.length = m ∧ Owns wr w.heap.size (.slice (some ⟨w.heap.size, 0, none⟩) zs.length m) zs ∧ digs m n = digs k c ++ zs.drop k ∧ Below w.heap.size w wr) (fun _ i _ => (intOf i + 1).toNat)
  case atStart => exact ⟨m, n, _, Nat.le_refl _, h0, h1, rfl, by go_num, by simp, HO1.out, by simp, hbel0⟩
  case round =>
    clear HO1 hbel0 w0
    obtain ⟨k, c, zs, hk, hc0, hc1, rfl, rfl, hzl, hown, hd, hbel⟩ := hrel
    have HZ : Hid (zs.length = m ∧ Owns wr w.heap.size (.slice (some ⟨w.heap.size, 0, none⟩) zs.length m) zs ∧ digs m n = digs k c ++ zs.drop k ∧ Below w.heap.size w wr) := ⟨hzl, hown, hd, hbel⟩
    clear hd hzl hbel
    cases k with
    | zero =>
      clear hown
      go_wp2
      go_ret
      obtain ⟨z1, z2, z3, z4⟩ := HZ.out
      have e : digs m n = zs := by rw [z3]; simp [digs]
      rw [z1] at z2
      exact ⟨_, rfl, by rw [e]; exact z2, z4⟩
    | succ k =>
      have e : ((k + 1 : Nat) : Int) - 1 = k := by omega
      rw [e]
      clear e
      have hcz := owns_cell hown k (by rw [HZ.out.1]; omega)
      have hfz := hown.frozenAt k
      clear hown
      go_wp2
      obtain ⟨z1, z2, z3, z4⟩ := HZ.out
      have R := owns_set z2 k (c % 256)
      have R2 : digs m n = digs k (c / 256) ++ (zs.set k (c % 256)).drop k := by
        rw [drop_set _ (by omega), z3]; simp [digs]
      have R3 : Below w.heap.size w (wr.setCell ⟨w.heap.size, k, none⟩ (.int .u8 (c % 256))) := z4.setCell (Nat.le_refl _) _
      go_roundw
      case rel => exact ⟨k, c / 256, zs.set k (c % 256), by omega, by omega, by omega, rfl, by go_num, by simpa using z1, R.1, R2, R3⟩
      case measure => simp [intOf]

set_option maxHeartbeats 400000 in
theorem refInt32_any (n : Int) (w : World) (h0 : -2147483648 ≤ n) (h1 : n ≤ 2147483647) :
    Calls Tryz.prog 89 #[.int .i32 n] w fun e w' => ∃ v', e = .returned v' ∧ Owns w' w.heap.size v' (be4 (up32 n)) ∧ Below w.heap.size w w' := by
  by_cases hn : n < 0
  · have hd : Hid (digs 4 (n + 4294967296) = be4 (up32 n)) := by
      have : up32 n = n + 4294967296 := by unfold up32; omega
      show _ = _
      rw [this]; exact digs4 _ (by omega) (by omega)
    go_enter Tryz.func89, Tryz.ntmps89
    go_wp2_with fail
    refine (digits_any (n + 4294967296) 4 _ (by omega) (by omega) (by omega)).mono ?_
    rintro e w1 ⟨v, rfl, hp⟩
    rw [hd.out] at hp
    have HP : Hid (Owns w1 w.heap.size v (be4 (up32 n)) ∧ Below w.heap.size w w1) := hp
    clear hp
    go_wp2
    go_ret
    exact ⟨_, rfl, HP.out⟩
  · have hd : Hid (digs 4 n = be4 (up32 n)) := by
      have : up32 n = n := by unfold up32; omega
      show _ = _
      rw [this]; exact digs4 _ (by omega) (by omega)
    go_enter Tryz.func89, Tryz.ntmps89
    go_wp2_with fail
    refine (digits_any n 4 _ (by omega) (by omega) (by omega)).mono ?_
    rintro e w1 ⟨v, rfl, hp⟩
    rw [hd.out] at hp
    have HP : Hid (Owns w1 w.heap.size v (be4 (up32 n)) ∧ Below w.heap.size w w1) := hp
    clear hp
    go_wp2
    go_ret
    exact ⟨_, rfl, HP.out⟩

end Go.Proofs.YtobnggkgpenmfaaGreatDoor

/- What the document's own bytes of an int64 are: Int64 of lagoonref01. -/
namespace Go.Proofs.YtobnggkgpenmfaaGreatDoor
open Go.RowKit
set_option maxRecDepth 8000

/-- The loop of lagoonref01.Int64 below 0 takes each digit from 255. -/
theorem flip_digs (m : Nat) (n : Int) : (digs m n).map (fun x => 255 - x) = digs m (-1 - n) := by
  induction m generalizing n with
  | zero => rfl
  | succ m ih =>
    simp only [digs, List.map_append, ih, List.map_cons, List.map_nil]
    rw [show (-1 - n) / 256 = -1 - n / 256 by omega, show (-1 - n) % 256 = 255 - n % 256 by omega]

theorem digs_up64 (n : Int) (h0 : -9223372036854775808 ≤ n) (h1 : n < 0) : digs 8 n = be8 (up64 n) := by
  rw [← digs8 (up64 n) (up64_bd n).1 (up64_bd n).2]
  have : up64 n = n + 18446744073709551616 := by unfold up64; omega
  rw [this]
  simp only [digs, List.nil_append, List.cons_append, List.cons.injEq, and_true]
  omega

theorem flip_nth (zs : List Int) (k : Nat) (hk : k < zs.length) (ds : List Int) (h : ∀ j, j < zs.length → zs.getD j 0 = if j < k then 255 - ds.getD j 0 else ds.getD j 0) :
    ∀ j, j < (zs.set k (255 - ds.getD k 0)).length → (zs.set k (255 - ds.getD k 0)).getD j 0 = if j < k + 1 then 255 - ds.getD j 0 else ds.getD j 0 := by
  intro j hj
  simp at hj
  rw [nth_set zs k j _ hk]
  by_cases e : j = k
  · rw [if_pos e, if_pos (by omega), e]
  · rw [if_neg e, h j hj]
    by_cases e2 : j < k
    · rw [if_pos e2, if_pos (by omega)]
    · rw [if_neg e2, if_neg (by omega)]

set_option maxHeartbeats 1000000 in
theorem refInt64_any (n : Int) (w : World) (h0 : -9223372036854775808 ≤ n) (h1 : n ≤ 9223372036854775807) :
    Calls Tryz.prog 52 #[.int .i64 n] w fun e w' => ∃ v', e = .returned v' ∧ Owns w' w.heap.size v' (be8 (up64 n)) ∧ Below w.heap.size w w' := by
  by_cases hn : 0 ≤ n
  · have hd : Hid (digs 8 n = be8 (up64 n)) := by
      have : up64 n = n := by unfold up64; omega
      show _ = _
      rw [this]; exact digs8 _ (by omega) (by omega)
    go_enter Tryz.func52, Tryz.ntmps52
    go_wp2_with fail
    refine (digits_any n 8 _ (by omega) (by omega) (by omega)).mono ?_
    rintro e w1 ⟨v, rfl, hp⟩
    rw [hd.out] at hp
    have HP : Hid (Owns w1 w.heap.size v (be8 (up64 n)) ∧ Below w.heap.size w w1) := hp
    clear hp
    go_wp2
    go_ret
    exact ⟨_, rfl, HP.out⟩
  · have hd : Hid (digs 8 n = be8 (up64 n)) := digs_up64 n h0 (by omega)
    have HF : Hid ((digs 8 (-1 - n)).map (fun x => 255 - x) = digs 8 n) := by
      have := flip_digs 8 (-1 - n)
      rw [show -1 - (-1 - n) = n by omega] at this
      exact this
    have HDB : Hid (Byts (digs 8 (-1 - n))) := digs_byts _ _
    have HDL : Hid ((digs 8 (-1 - n)).length = 8) := digs_len _ _
    go_enter Tryz.func52, Tryz.ntmps52
    go_wp2_with fail
    refine (digits_any (-1 - n) 8 _ (by omega) (by omega) (by omega)).mono ?_
    rintro e w1 ⟨v, rfl, ho, hbel⟩
    generalize digs 8 (-1 - n) = ds at *
    obtain ⟨g, c, hv, hg⟩ := owns_some ho (by rw [HDL.out]; omega)
    rw [HDL.out] at hv
    subst hv
    have HP : Hid (Owns w1 w.heap.size (.slice (some ⟨g, 0, none⟩) 8 c) ds ∧ Below w.heap.size w w1) := ⟨ho, hbel⟩
    clear ho hbel
    go_wp2
    go_loopw [4] (fun i wr => ∃ (k : Nat) (zs : List Int), k ≤ 8 ∧ i = .int .i64 k ∧ zs.length = 8 ∧ Owns wr w.heap.size (.slice (some ⟨g, 0, none⟩) 8 c) zs ∧ (∀ j, j < zs.length → zs.getD j 0 = if j < k then 255 - ds.getD j 0 else ds.getD j 0) ∧ Below w.heap.size w wr) (fun i _ => 8 - (intOf i).toNat)
    case atStart => exact ⟨0, ds, by omega, rfl, HDL.out, HP.out.1, fun j hj => by simp, HP.out.2⟩
    case round =>
      clear HP
      obtain ⟨k, zs, hk, rfl, hzl, hown, hpt, hbel⟩ := hrel
      have HZ : Hid (zs.length = 8 ∧ Owns wr w.heap.size (.slice (some ⟨g, 0, none⟩) zs.length c) zs ∧ (∀ j, j < zs.length → zs.getD j 0 = if j < k then 255 - ds.getD j 0 else ds.getD j 0) ∧ Below w.heap.size w wr) := ⟨hzl, by rw [hzl]; exact hown, hpt, hbel⟩
      clear hown hpt hbel hzl
      by_cases hlt : k < 8
      · have hcz := owns_cell HZ.out.2.1 k (by rw [HZ.out.1]; omega)
        rw [HZ.out.2.2.1 k (by rw [HZ.out.1]; omega), if_neg (by omega)] at hcz
        have hfz := HZ.out.2.1.frozenAt k
        have hx := HDB.out.nth k
        have HN := flip_nth zs k (by rw [HZ.out.1]; omega) ds HZ.out.2.2.1
        have HN' : Hid _ := HN
        have HS : Hid (Owns (wr.setCell ⟨g, k, none⟩ (.int .u8 (255 - ds.getD k 0))) w.heap.size (.slice (some ⟨g, 0, none⟩) (zs.set k (255 - ds.getD k 0)).length c) (zs.set k (255 - ds.getD k 0))) := (owns_set HZ.out.2.1 k (255 - ds.getD k 0)).1
        clear HN
        generalize ds.getD k 0 = x at *
        go_wp2
        have z2 := HS.out
        rw [List.length_set, HZ.out.1] at z2
        have R3 : Below w.heap.size w (wr.setCell ⟨g, k, none⟩ (.int .u8 (255 - x))) := HZ.out.2.2.2.setCell hg _
        go_roundw
        case rel => exact ⟨k + 1, zs.set k (255 - x), by omega, by go_num, by rw [List.length_set]; exact HZ.out.1, z2, HN'.out, R3⟩
        case measure => simp [intOf]; omega
      · have he : zs = be8 (up64 n) := by
          rw [← hd.out, ← HF.out]
          refine list_of_nths (by rw [List.length_map, HZ.out.1, HDL.out]) (fun j hj => ?_)
          rw [HZ.out.2.2.1 j hj, if_pos (by have := HZ.out.1; omega)]
          have hj' : j < ds.length := by have := HZ.out.1; have := HDL.out; omega
          simp [List.getD_eq_getElem?_getD, hj']
        have z2 := HZ.out.2.1
        rw [HZ.out.1, he] at z2
        have HR : Hid (Owns wr w.heap.size (.slice (some ⟨g, 0, none⟩) 8 c) (be8 (up64 n)) ∧ Below w.heap.size w wr) := ⟨z2, HZ.out.2.2.2⟩
        clear z2 he HZ
        go_wp2
        go_ret
        exact ⟨_, rfl, HR.out⟩

end Go.Proofs.YtobnggkgpenmfaaGreatDoor

/- What the rest of the document's own bytes are: Bool, Int8, Uint32, Float, Buffer and Text of lagoonref01; and what spoil of the statements does. -/
namespace Go.Proofs.YtobnggkgpenmfaaGreatDoor
open Go.RowKit
set_option maxRecDepth 8000

theorem owns_new (w : World) (cs : Array Value) (ys : List Int) (hl : ys.length ≤ 4096) (h : cs.toList = ys.map (Value.int .u8)) : Owns (w.alloc (.cells cs 5)) w.heap.size (.slice (some ⟨w.heap.size, 0, none⟩) ys.length ys.length) ys := by
  have hs : cs.size = ys.length * 1 := by
    have := congrArg List.length h
    simp at this
    omega
  have := World.ownsRow_lit (base := w.heap.size) (e := 5) (size := 1) w cs ys.length (Nat.le_refl _) (by unfold maxLen; omega) hs
  rw [h] at this
  exact this

theorem refBool_any (b : Bool) (w : World) : Calls Tryz.prog 91 #[.bool b] w fun e w' => ∃ v', e = .returned v' ∧ Owns w' w.heap.size v' [b2i b] ∧ Below w.heap.size w w' := by
  cases b
  · go_enter Tryz.func91, Tryz.ntmps91
    go_wp2
    go_ret
    exact ⟨_, rfl, owns_new w _ [0] (by simp) rfl, (Below.refl _ _).alloc (Nat.le_refl _) _⟩
  · go_enter Tryz.func91, Tryz.ntmps91
    go_wp2
    go_ret
    exact ⟨_, rfl, owns_new w _ [1] (by simp) rfl, (Below.refl _ _).alloc (Nat.le_refl _) _⟩

theorem refInt8_any (n : Int) (w : World) (h0 : -128 ≤ n) (h1 : n ≤ 127) : Calls Tryz.prog 51 #[.int .i8 n] w fun e w' => ∃ v', e = .returned v' ∧ Owns w' w.heap.size v' [n % 256] ∧ Below w.heap.size w w' := by
  by_cases hn : n < 0
  · go_enter Tryz.func51, Tryz.ntmps51
    go_wp2
    go_ret
    exact ⟨_, rfl, owns_new w _ [n % 256] (by simp) (by simp; omega), (Below.refl _ _).alloc (Nat.le_refl _) _⟩
  · go_enter Tryz.func51, Tryz.ntmps51
    go_wp2
    go_ret
    exact ⟨_, rfl, owns_new w _ [n % 256] (by simp) (by simp; omega), (Below.refl _ _).alloc (Nat.le_refl _) _⟩

set_option maxHeartbeats 400000 in
theorem refUint32_any (n : Int) (w : World) (h0 : 0 ≤ n) (h1 : n < 4294967296) : Calls Tryz.prog 49 #[.int .u32 n] w fun e w' => ∃ v', e = .returned v' ∧ Owns w' w.heap.size v' (be4 n) ∧ Below w.heap.size w w' := by
  have hd : Hid (digs 4 n = be4 n) := digs4 n h0 h1
  go_enter Tryz.func49, Tryz.ntmps49
  go_wp2_with fail
  refine (digits_any n 4 _ (by omega) (by omega) (by omega)).mono ?_
  rintro e w1 ⟨v, rfl, hp⟩
  rw [hd.out] at hp
  have HP : Hid (Owns w1 w.heap.size v (be4 n) ∧ Below w.heap.size w w1) := hp
  clear hp
  go_wp2
  go_ret
  exact ⟨_, rfl, HP.out⟩

set_option maxHeartbeats 400000 in
theorem refBuffer_any (u : Value) (ys : List Int) (w : World) (h' : Sees w u ys) (hl : ys.length ≤ 2147483647) :
    Calls Tryz.prog 88 #[u] w fun e w' => ∃ v', e = .returned v' ∧ Owns w' w.heap.size v' (be4 ys.length ++ ys) ∧ Below w.heap.size w w' := by
  obtain ⟨ao, cap, rfl, hlc, hcm, _, h3⟩ := h'
  unfold maxLen at hcm
  obtain ⟨i0, hi, hz0, hz1, hz2⟩ := info_parts Tryz.infoByte
  have H3 : Hid _ := h3
  clear h3
  go_enter Tryz.func88, Tryz.ntmps88
  go_wp2_with fail
  refine (refInt32_any ys.length _ (by omega) (by omega)).mono ?_
  rintro e w1 ⟨v1, rfl, ho1, hb1⟩
  rw [show up32 (ys.length : Int) = ys.length by unfold up32; omega] at ho1
  have HP : Hid (Owns w1 w.heap.size v1 (be4 ys.length) ∧ Below w.heap.size w w1) := ⟨ho1, hb1⟩
  clear ho1 hb1
  go_wp2
  go_loopw [3, 4] (fun v i wr => ∃ k : Nat, k ≤ ys.length ∧ i = .int .i64 k ∧ Owns wr w.heap.size v (be4 ys.length ++ ys.take k) ∧ Below w.heap.size w wr) (fun _ i _ => ys.length - (intOf i).toNat)
  case atStart => exact ⟨0, Nat.zero_le _, rfl, by simpa using HP.out.1, HP.out.2⟩
  case round =>
    clear HP
    obtain ⟨k, hk, rfl, hown, hbel⟩ := hrel
    by_cases hlt : k < ys.length
    · rcases H3.out with h3 | ⟨b, off, rfl, h3⟩
      · subst h3; simp at hlt
      · have hc := cell_later (h3 k hlt) hbel (Nat.le_refl _)
        have HN : Hid _ := take_next ys k hlt
        have HL : Hid ((be4 (ys.length : Int) ++ ys.take k).length ≤ 4 + k) := by show _ ≤ _; simp [be4]; omega
        clear h3 H3
        generalize ys.getD k 0 = x at *
        have HN2 : Hid (be4 (ys.length : Int) ++ ys.take (k + 1) = (be4 (ys.length : Int) ++ ys.take k) ++ [x]) := by show _ = _; rw [HN.out]; simp
        clear HN
        generalize be4 (ys.length : Int) ++ ys.take k = zs at *
        have hsz := hbel.size
        go_wp2_with (at_builtin; refine wpList_append_own _ rfl _ _ 42 rfl w.heap.size 5 i0 (.int .u8 0) 1 1 Tryz.underlying42 hi hz0 hz1 hz2 rfl (by decide) _ _ _ rfl (hown.alloc _) ⟨wr.heap.size, 0, none⟩ 1 1 [.int .u8 x] rfl rfl ?c1 ?c2 ?c3 ?c4 ?c5 ?_)
        case c1 =>
          intro j u hj
          match j, hj with
          | 0, hj => simp at hj; subst hj; simp [Addr.add]
        case c2 => intro u hu; simp at hu; subst hu; rfl
        case c3 => have := HL.out; unfold maxLen; omega
        case c4 => have := HL.out; omega
        case c5 => simp; omega
        intro v' w1 hown' hgrow _
        have R := app_rel hsz hown hbel hown' hgrow
        clear hown' hgrow hown hc
        go_wp2
        go_roundw
        case rel => exact ⟨k + 1, by omega, by go_num, by rw [HN2.out]; exact R.1, R.2.1⟩
        case measure => simp [intOf]; omega
    · obtain rfl : k = ys.length := by omega
      rw [List.take_length] at hown
      go_wp2
      go_ret
      exact ⟨_, rfl, hown, hbel⟩

set_option maxHeartbeats 400000 in
theorem refText_any (s : ByteArray) (w : World) (hl : s.size ≤ 2147483647) :
    Calls Tryz.prog 87 #[.string s] w fun e w' => ∃ v', e = .returned v' ∧ Owns w' w.heap.size v' (be4 (txt s).length ++ txt s) ∧ Below w.heap.size w w' := by
  have hcv := run_bytes_of_string (P := Tryz.prog) w 9 42 5 s Tryz.underlying9 Tryz.underlying42 Tryz.underlying5
  go_enter Tryz.func87, Tryz.ntmps87
  go_wp2_with fail
  refine (refBuffer_any _ (txt s) _ (by exact sees_text w s (by unfold maxLen; omega) _) (by rw [txt_len]; omega)).mono ?_
  rintro e w1 ⟨v', rfl, ho, hb⟩
  have HP : Hid (Owns w1 w.heap.size v' (be4 (txt s).length ++ txt s) ∧ Below w.heap.size w w1) :=
    ⟨owns_mono ho (by simp), ((Below.refl w.heap.size w).alloc (Nat.le_refl _) _).drew.trans (hb.mono (by simp))⟩
  clear ho hb
  go_wp2
  go_ret
  exact ⟨_, rfl, HP.out⟩

end Go.Proofs.YtobnggkgpenmfaaGreatDoor
/- behind and putId of the document's layer 4: bytes behind others, in a row of one's own. -/
namespace Go.Proofs.YtobnggkgpenmfaaGreatDoor
open Go.RowKit
set_option maxRecDepth 8000

/-- The row v grew to v', of the bytes zs: no other block of w changed. -/
structure Beh (B : Nat) (w : World) (v : Value) (zs : List Int) (w' : World) (v' : Value) : Prop where
  own : Owns w' B v' zs
  kept : Kept w w' (fun k => v.ownBlock = some k)
  blk : ∀ j, v'.ownBlock = some j → v.ownBlock = some j ∨ w.heap.size ≤ j
  base : B ≤ w'.heap.size

theorem Beh.trans {B : Nat} {w w1 w2 : World} {v v1 v2 : Value} {xs ys : List Int} (h : Beh B w v xs w1 v1) (g : Beh B w1 v1 ys w2 v2) : Beh B w v ys w2 v2 := by
  have hs := h.kept.size
  refine ⟨g.own, ⟨?_, ?_, ?_, ?_, fun k hk hn => ?_⟩, fun j e => ?_, g.base⟩
  · rw [g.kept.os, h.kept.os]
  · rw [g.kept.tape, h.kept.tape]
  · rw [g.kept.output, h.kept.output]
  · have := g.kept.size; omega
  · rw [g.kept.block k (by omega) (fun e => ?_), h.kept.block k hk hn]
    rcases h.blk k e with h' | h'
    · exact hn h'
    · omega
  · rcases g.blk j e with h' | h'
    · exact h.blk j h'
    · exact .inr (by omega)

theorem Beh.refl {B : Nat} {w : World} {v : Value} {xs : List Int} (h : Owns w B v xs) (hB : B ≤ w.heap.size) : Beh B w v xs w v := ⟨h, Kept.refl _ _, fun _ e => .inl e, hB⟩

/-- Blocks came behind. -/
theorem Beh.later {B : Nat} {w w1 w2 : World} {v v1 : Value} {xs : List Int} (h : Beh B w v xs w1 v1) (hb : Below w1.heap.size w1 w2) : Beh B w v xs w2 v1 :=
  ⟨Owns.kept h.own (Below.kept hb) (fun k e h' => by have := (h.own.lt k e).2; omega), h.kept.trans ((Below.kept hb).mono (S' := fun _ => False) (fun k hk h' => by omega)) (fun _ _ h' => h'.elim), h.blk, Nat.le_trans h.base hb.size⟩

theorem Beh.below {B : Nat} {w w' : World} {v v' : Value} {xs zs : List Int} (h : Beh B w v zs w' v') (hv : Owns w B v xs) (hB : B ≤ w.heap.size) : Below B w w' :=
  ⟨h.kept.os, h.kept.tape, h.kept.output, h.kept.size, fun k hk => h.kept.block k (by omega) (fun e => by have := (hv.lt k e).1; omega)⟩

theorem be_step {B : Nat} {w wr w1 : World} {v0 v v' : Value} {xs : List Int} {x : Int} {o : Obj} (h : Beh B w v0 xs wr v)
    (hown' : w1.ownsRow B 5 1 v' (xs.length + 1) (xs.map (Value.int .u8) ++ [.int .u8 x])) (hgrow : (wr.alloc o).grownBy w1 v.ownBlock) (hb : v'.ownBlock = v.ownBlock ∨ v'.ownBlock = some (wr.heap.size + 1)) :
    Beh B w v0 (xs ++ [x]) w1 v' := by
  have hsz := h.kept.size
  have ha : Kept wr (wr.alloc o) (fun _ => False) := (Kept.refl wr _).alloc _
  have hsa : (wr.alloc o).heap.size = wr.heap.size + 1 := by simp
  have hg := hgrow.size
  refine h.trans ⟨by simpa [Owns] using hown', ⟨?_, ?_, ?_, by omega, fun k hk' hS => ?_⟩, fun j e => ?_, by have := h.base; omega⟩
  · rw [hgrow.os, ha.os]
  · rw [hgrow.tape, ha.tape]
  · rw [hgrow.output, ha.output]
  · rw [hgrow.block k (by omega) (fun e => hS e.symm), ha.block k hk' (fun h => h)]
  · rcases hb with h | h
    · rw [h] at e; exact .inl e
    · rw [h] at e; simp at e; omega

set_option maxHeartbeats 1000000 in
theorem behind_any (B : Nat) (v u : Value) (xs ys : List Int) (w : World) (hv : Owns w B v xs) (hu : Sees w u ys) (hd : ∀ j, u.ownBlock = some j → v.ownBlock ≠ some j) (hB : B ≤ w.heap.size) (hl : xs.length + ys.length ≤ 1000000000) :
    Calls Tryz.prog 50 #[v, u] w fun e w' => ∃ v', e = .returned v' ∧ Beh B w v (xs ++ ys) w' v' := by
  obtain ⟨i0, hi, hz0, hz1, hz2⟩ := info_parts Tryz.infoByte
  obtain ⟨ao, cap, rfl, hlc, hcm, _, h3⟩ := hu
  unfold maxLen at hcm
  have H3 : Hid _ := h3
  have HV : Hid (Owns w B v xs) := hv
  have HD : Hid _ := hd
  clear h3 hv hd
  go_enter Tryz.func50, Tryz.ntmps50
  go_wp2
  go_loopw [0, 5] (fun v' i wr => ∃ k : Nat, k ≤ ys.length ∧ i = .int .i64 k ∧ Beh B w v (xs ++ ys.take k) wr v') (fun _ i _ => ys.length - (intOf i).toNat)
  case atStart => exact ⟨0, Nat.zero_le _, rfl, by simpa using Beh.refl HV.out hB⟩
  case round =>
    clear HV
    obtain ⟨k, hk, rfl, hbe⟩ := hrel
    by_cases hlt : k < ys.length
    · rcases H3.out with h3 | ⟨b, off, rfl, h3⟩
      · subst h3; simp at hlt
      · have hc := hbe.kept.cell (h3 k hlt) (fun e => HD.out b rfl e)
        have HN : Hid _ := take_next ys k hlt
        have HL : Hid ((xs ++ ys.take k).length ≤ xs.length + k) := by show _ ≤ _; simp; omega
        clear h3 H3
        generalize ys.getD k 0 = x at *
        have HN2 : Hid (xs ++ ys.take (k + 1) = (xs ++ ys.take k) ++ [x]) := by show _ = _; rw [HN.out]; simp
        clear HN
        generalize xs ++ ys.take k = zs at *
        have HK : Hid _ := hbe
        have hown := hbe.own
        have hsz := hbe.base
        clear hbe
        go_wp2_with (at_builtin; refine wpList_append_own_at _ rfl _ _ 42 rfl B 5 i0 (.int .u8 0) 1 1 Tryz.underlying42 hi hz0 hz1 hz2 rfl (by decide) _ _ _ rfl (hown.alloc _) ⟨wr.heap.size, 0, none⟩ 1 1 [.int .u8 x] rfl rfl (cell_one_new _ _ _) ?c2 ?c3 ?c4 ?c5 ?_)
        case c2 => intro u hu; simp at hu; subst hu; rfl
        case c3 => have := HL.out; unfold maxLen; omega
        case c4 => have := HL.out; omega
        case c5 => simp; omega
        intro v' w1 hown' hgrow _ hbk
        have R : Hid _ := be_step HK.out hown' hgrow (by simpa using hbk)
        clear hown' hgrow hown hc hbk HK
        go_wp2
        go_roundw
        case rel => exact ⟨k + 1, by omega, by go_num, by rw [HN2.out]; exact R.out⟩
        case measure => simp [intOf]; omega
    · obtain rfl : k = ys.length := by omega
      rw [List.take_length] at hbe
      have HE : Hid _ := hbe
      clear hbe
      go_wp2
      go_ret
      exact ⟨_, rfl, HE.out⟩

/-- Bytes that were just made, behind others. -/
theorem behind_new {B : Nat} {v0 v u : Value} {xs ys : List Int} {w0 w w1 : World} (hv : Beh B w0 v0 xs w v) (hb : Below w.heap.size w w1) (hu : Owns w1 w.heap.size u ys) (hl : xs.length + ys.length ≤ 1000000000) :
    Calls Tryz.prog 50 #[v, u] w1 fun e w' => ∃ v', e = .returned v' ∧ Beh B w0 v0 (xs ++ ys) w' v' ∧ Kept w1 w' (fun k => v.ownBlock = some k) :=
  (behind_any B v u xs ys w1 (hv.later hb).own (Sees.own hu) (fun j e e' => by have h1 := (hu.lt j e).1; have h2 := (hv.own.lt j e').2; omega) (hv.later hb).base hl).mono fun e w' ⟨v', h1, h2⟩ => ⟨v', h1, (hv.later hb).trans h2, h2.kept⟩

set_option maxHeartbeats 1000000 in
theorem refPutId_any (B : Nat) (v : Value) (xs : List Int) (x : IdD) (w : World) (hv : Owns w B v xs) (hB : B ≤ w.heap.size) (h0 : x.scheme.size ≤ 1000) (h1 : x.name.size ≤ 1000) (hl : xs.length ≤ 200000000) :
    Calls Tryz.prog 90 #[v, .agg #[.string x.scheme, .string x.name]] w fun e w' => ∃ v', e = .returned v' ∧ Beh B w v (xs ++ idB x) w' v' := by
  obtain ⟨V, eV⟩ : ∃ V, V = w.alloc (.cells #[.string x.scheme, .string x.name] 101) := ⟨_, rfl⟩
  have HV : Hid (Below w.heap.size w V) := by subst eV; exact one_alloc _ _
  have HC : Hid (V.cell? ⟨w.heap.size, 0, none⟩ = some (.string x.scheme) ∧ V.cell? ⟨w.heap.size, 1, none⟩ = some (.string x.name)) := by
    subst eV
    refine ⟨?_, ?_⟩ <;> (rw [cell_of_row _ _ _ _ _ _ (heap_alloc_new _ _)]; rfl)
  have HE : Hid _ := eV
  have HO : Hid (Beh B w v xs V v) := (Beh.refl hv hB).later HV.out
  have HN : Hid (v.ownBlock ≠ some w.heap.size) := fun e => by have := (hv.lt _ e).2; omega
  have HL : Hid ((txtB x.scheme).length ≤ 1004 ∧ (txtB x.name).length ≤ 1004) := ⟨by rw [txtB_len]; omega, by rw [txtB_len]; omega⟩
  clear eV hv
  go_enter Tryz.func90, Tryz.ntmps90
  go_wp2_with fail
  rw [← HE.out]
  clear HE
  refine (refText_any x.scheme _ (by omega)).mono ?_
  rintro e w1 ⟨u1, rfl, hu1, hb1⟩
  have HX1 := behind_new HO.out hb1 hu1 (by have h1 := HL.out.1; unfold txtB at h1; omega)
  have HC1 : Hid (w1.cell? ⟨w.heap.size, 1, none⟩ = some (.string x.name)) := cell_later HC.out.2 hb1 (Nat.le_refl _)
  clear hu1 hb1
  go_wp2_with fail
  refine HX1.mono ?_
  clear HX1
  rintro e w2 ⟨v2, rfl, hv2, hk2⟩
  have HO2 : Hid (Beh B w v (xs ++ txtB x.scheme) w2 v2) := hv2
  have c1 := hk2.cell HC1.out HN.out
  clear hv2 hk2 HC1
  go_wp2_with fail
  refine (refText_any x.name _ (by omega)).mono ?_
  rintro e w3 ⟨u3, rfl, hu3, hb3⟩
  have HX3 := behind_new HO2.out hb3 hu3 (by have h1 := HL.out; unfold txtB at h1; simp only [txtB, List.length_append] at h1 ⊢; omega)
  clear hu3 hb3 c1
  go_wp2_with fail
  refine HX3.mono ?_
  clear HX3
  rintro e w4 ⟨v4, rfl, hv4, _⟩
  rw [List.append_assoc] at hv4
  have HO4 : Hid (Beh B w v (xs ++ idB x) w4 v4) := hv4
  clear hv4
  go_wp2_with fail
  go_ret
  exact ⟨_, rfl, HO4.out⟩
end Go.Proofs.YtobnggkgpenmfaaGreatDoor

/-
  DERIVED: THE SHELF's CONTRACTS AT THIS DUMP, IN PLAIN WORDS (tools/lay-plain.mjs out of 'TryzShelf.lean', which tools/lay-shelf.mjs wrote): THE SAME DECLARATIONS UNDER THE SAME NAMES: 'import', 'namespace', 'open', 'def', 'theorem' AND NOTHING ELSE: no command of the shelf's: FOR A HAND-IN. Each laying: the table of numbers ('.._ren') and one theorem, a field a fact of the dump's own or the kernel's comparison; each contract: ONE APPLICATION.
-/
namespace Go.Proofs
open Go.Shelf
def Tryz.laysM171_ren : Go.Shelf.Ren := ⟨fun | 171 => 92 | 243 => 102 | 246 => 112 | 283 => 113 | 284 => 114 | 285 => 115 | 286 => 116 | 129 => 118 | 317 => 117 | 318 => 119 | 319 => 120 | 320 => 121 | 337 => 122 | 338 => 123 | n => n, fun | 3 => 3 | 9 => 9 | 2 => 2 | 4 => 4 | 171 => 139 | 0 => 0 | 53 => 110 | 37 => 42 | 5 => 5 | 173 => 142 | 212 => 146 | 51 => 22 | 20 => 20 | 213 => 147 | 46 => 108 | 232 => 151 | 233 => 152 | n => n, fun | 17 => 1 | 18 => 2 | 19 => 3 | n => n⟩
theorem Tryz.laysM171 : Go.Proofs.LaysM.n171 Tryz.prog Tryz.laysM171_ren := {
  mixed := by kernel_rfl
  f129 := Tryz.func118.trans (congrArg some (by kernel_rfl))
  f171 := Tryz.func92.trans (congrArg some (by kernel_rfl))
  f243 := Tryz.func102.trans (congrArg some (by kernel_rfl))
  f246 := Tryz.func112.trans (congrArg some (by kernel_rfl))
  f283 := Tryz.func113.trans (congrArg some (by kernel_rfl))
  f284 := Tryz.func114.trans (congrArg some (by kernel_rfl))
  f285 := Tryz.func115.trans (congrArg some (by kernel_rfl))
  f286 := Tryz.func116.trans (congrArg some (by kernel_rfl))
  f317 := Tryz.func117.trans (congrArg some (by kernel_rfl))
  f318 := Tryz.func119.trans (congrArg some (by kernel_rfl))
  f319 := Tryz.func120.trans (congrArg some (by kernel_rfl))
  f320 := Tryz.func121.trans (congrArg some (by kernel_rfl))
  f337 := Tryz.func122.trans (congrArg some (by kernel_rfl))
  f338 := Tryz.func123.trans (congrArg some (by kernel_rfl))
  t0 := Tryz.underlying0
  a0 := Tryz.isAgg0
  z0 := Tryz.sizeOf0
  v0 := Tryz.zeroValue0
  t2 := Tryz.underlying2
  a2 := Tryz.isAgg2
  z2 := Tryz.sizeOf2
  v2 := Tryz.zeroValue2
  t3 := Tryz.underlying3
  a3 := Tryz.isAgg3
  z3 := Tryz.sizeOf3
  v3 := Tryz.zeroValue3
  t4 := Tryz.underlying4
  a4 := Tryz.isAgg4
  z4 := Tryz.sizeOf4
  v4 := Tryz.zeroValue4
  t5 := Tryz.underlying5
  a5 := Tryz.isAgg5
  z5 := Tryz.sizeOf5
  v5 := Tryz.zeroValue5
  t9 := Tryz.underlying9
  a9 := Tryz.isAgg9
  z9 := Tryz.sizeOf9
  v9 := Tryz.zeroValue9
  t20 := Tryz.underlying20
  a20 := Tryz.isAgg20
  z20 := Tryz.sizeOf20
  v20 := Tryz.zeroValue20
  t37 := Tryz.underlying42
  a37 := Tryz.isAgg42
  z37 := Tryz.sizeOf42
  v37 := Tryz.zeroValue42
  t46 := Tryz.underlying108
  a46 := Tryz.isAgg108
  z46 := Tryz.sizeOf108
  v46 := Tryz.zeroValue108
  t51 := Tryz.underlying22
  a51 := Tryz.isAgg22
  z51 := Tryz.sizeOf22
  v51 := Tryz.zeroValue22
  t53 := Tryz.underlying110
  a53 := Tryz.isAgg110
  z53 := Tryz.sizeOf110
  v53 := Tryz.zeroValue110
  t171 := Tryz.underlying139
  a171 := Tryz.isAgg139
  z171 := Tryz.sizeOf139
  v171 := Tryz.zeroValue139
  t173 := Tryz.underlying142
  a173 := Tryz.isAgg142
  z173 := Tryz.sizeOf142
  v173 := Tryz.zeroValue142
  t212 := Tryz.underlying146
  a212 := Tryz.isAgg146
  z212 := Tryz.sizeOf146
  v212 := Tryz.zeroValue146
  t213 := Tryz.underlying147
  a213 := Tryz.isAgg147
  z213 := Tryz.sizeOf147
  t232 := Tryz.underlying151
  a232 := Tryz.isAgg151
  z232 := Tryz.sizeOf151
  v232 := Tryz.zeroValue151
  t233 := Tryz.underlying152
  a233 := Tryz.isAgg152
  z233 := Tryz.sizeOf152
  v233 := Tryz.zeroValue152
  g17 := by kernel_rfl
  g18 := by kernel_rfl
  g19 := by kernel_rfl
  i0 := by kernel_rfl
  i2 := by kernel_rfl
  i3 := by kernel_rfl
  i4 := by kernel_rfl
  i5 := by kernel_rfl
  i9 := by kernel_rfl
  i20 := by kernel_rfl
  i37 := by kernel_rfl
  i46 := by kernel_rfl
  i51 := by kernel_rfl
  i53 := by kernel_rfl
  i171 := by kernel_rfl
  i173 := by kernel_rfl
  i212 := by kernel_rfl
  i232 := by kernel_rfl
  i233 := by kernel_rfl
  m17 := by kernel_rfl
  m18 := by kernel_rfl
  m19 := by kernel_rfl }
open Go.RowKit Go.Sort Go.Lib in
/-- strconv.Itoa: "Itoa is equivalent to FormatInt(int64(i), 10).": i's DECIMAL NUMERAL ('Lib.itoa': a '-' where i is negative, then the digits), FOR EVERY int. The world behind the call: the world before it, new blocks behind the heap (the library's 'var a [24]byte'), draws. (LAID: no walk: one application.) -/
theorem Tryz.strconv_Itoa (n : Int) (h0 : -9223372036854775808 ≤ n) (h1 : n ≤ 9223372036854775807) (w : World) (htab : Lib.TabIs Tryz.prog w "internal/strconv.uint64pow10" .u64 Lib.pow10Tab) :
    Calls Tryz.prog 92 #[.int .i64 n] w fun e w' => e = .returned (.string ⟨(Lib.itoa n).toArray⟩) ∧ ∃ k os, w' = grow (w.drewN k) os := Any.strconv_Itoa Tryz.laysM171 n h0 h1 w htab
end Go.Proofs

/- What mark of lagoonref00 answers; nothing that was there before is changed. -/
namespace Go.Proofs.YtobnggkgpenmfaaGreatDoor
open Go.RowKit
set_option maxRecDepth 8000

/-- The table that strconv's numerals read. -/
abbrev Tab (w : World) : Prop := Lib.TabIs Tryz.prog w "internal/strconv.uint64pow10" .u64 Lib.pow10Tab

theorem tab_global : Tryz.prog.globalNamed "internal/strconv.uint64pow10" = some 1 := by kernel_rfl

theorem Tab.below {B : Nat} {w w' : World} (h : Tab w) (hb : Below B w w') (hB : 1 < B) : Tab w' := var?_below hb tab_global hB h

theorem decDigits_len (u : Nat) : (Lib.decDigits u).length ≤ u / 10 + 2 := by
  induction u using Nat.strongRecOn with
  | _ u ih =>
    rw [Lib.decDigits]
    by_cases h : u < 10
    · rw [dif_pos h]; simp
    · rw [dif_neg h]
      have := ih (u / 10) (by omega)
      simp
      omega

theorem itoa_len (n : Int) (h0 : -9223372036854775808 ≤ n) (h1 : n ≤ 9223372036854775807) : (⟨(Lib.itoa n).toArray⟩ : ByteArray).size ≤ 9000000000000000000 := by
  show (Lib.itoa n).toArray.size ≤ _
  rw [List.size_toArray]
  unfold Lib.itoa
  by_cases h : n < 0
  · rw [if_pos h]
    have := decDigits_len n.natAbs
    simp
    omega
  · rw [if_neg h]
    have := decDigits_len n.toNat
    omega

/-- The text that mark makes of a number. -/
def markS (n : Int) : ByteArray := (⟨#[33]⟩ : ByteArray) ++ (⟨(Lib.itoa n).toArray⟩ : ByteArray)

set_option maxHeartbeats 400000 in
theorem mark_is (n : Int) (w : World) (h0 : -9223372036854775808 ≤ n) (h1 : n ≤ 9223372036854775807) (ht : Tab w) :
    Calls Tryz.prog 63 #[.int .i64 n] w fun e w' => e = .returned (.string (markS n)) ∧ Below w.heap.size w w' := by
  have HT : Hid (Tab w) := ht
  clear ht
  have hs := fun w => run_string_add_sum (P := Tryz.prog) w (⟨#[33]⟩ : ByteArray) (⟨(Lib.itoa n).toArray⟩ : ByteArray) (by have := itoa_len n h0 h1; show 1 + _ ≤ _; omega)
  go_enter Tryz.func63, Tryz.ntmps63
  go_wp2_with fail
  refine (Tryz.strconv_Itoa n h0 h1 _ HT.out).mono ?_
  rintro e w1 ⟨rfl, k, os, hw1⟩
  have HB : Hid (Below w.heap.size w w1) := by rw [hw1]; exact ⟨rfl, rfl, rfl, by simp [Sort.grow], fun i hi => by show (w.heap ++ os)[i]? = _; rw [Array.getElem?_append_left hi]⟩
  clear hw1
  go_wp2
  go_ret
  exact ⟨rfl, HB.out⟩


theorem markS_len (n : Int) (h0 : -2001000 ≤ n) (h1 : n ≤ 0) : (markS n).size ≤ 210000 := by
  unfold markS
  rw [ByteArray.size_append]
  show 1 + (Lib.itoa n).toArray.size ≤ _
  rw [List.size_toArray]
  unfold Lib.itoa
  by_cases h : n < 0
  · rw [if_pos h]
    have := decDigits_len n.natAbs
    simp
    omega
  · rw [if_neg h]
    have := decDigits_len n.toNat
    omega

end Go.Proofs.YtobnggkgpenmfaaGreatDoor

/- lagoonref00's WideAcl and WideIds over a request's lists: lists of their own with marks behind them. -/
namespace Go.Proofs.YtobnggkgpenmfaaGreatDoor
open Go.RowKit Go.Shelf
set_option maxRecDepth 8000

theorem cellsEW {w : World} {v : Value} {l : List EnD} (h : SeesR w v 3 (l.map EnD.cells)) : ∃ ao cap, v = .slice ao l.length cap ∧ l.length ≤ cap ∧ Hid (∀ k (hk : k < l.length), ∃ b off, ao = some ⟨b, off, none⟩ ∧ w.cell? ⟨b, off + k * 3, none⟩ = some (.int .i8 l[k].1) ∧ w.cell? ⟨b, off + k * 3 + 1, none⟩ = some (.string l[k].2.1) ∧ w.cell? ⟨b, off + k * 3 + 2, none⟩ = some (.string l[k].2.2)) := by
  obtain ⟨ao, cap, h1, h2, _, _, h3⟩ := h
  rw [List.length_map] at h1 h2
  refine ⟨ao, cap, h1, h2, fun k hk => ?_⟩
  rcases h3 with h3 | ⟨b, off, e, h3⟩
  · have : l.length = 0 := by simpa using congrArg List.length h3
    omega
  · have h := h3 k (by rw [List.length_map]; exact hk)
    refine ⟨b, off, e, ?_, ?_, ?_⟩
    · exact (h 0 (by omega)).trans (by simp [EnD.cells])
    · exact (h 1 (by omega)).trans (by simp [EnD.cells])
    · exact (h 2 (by omega)).trans (by simp [EnD.cells])

theorem cellsIW {w : World} {v : Value} {l : List IdD} (h : SeesR w v 2 (l.map IdD.cells)) : ∃ ao cap, v = .slice ao l.length cap ∧ l.length ≤ cap ∧ Hid (∀ k (hk : k < l.length), ∃ b off, ao = some ⟨b, off, none⟩ ∧ w.cell? ⟨b, off + k * 2, none⟩ = some (.string l[k].1) ∧ w.cell? ⟨b, off + k * 2 + 1, none⟩ = some (.string l[k].2)) := by
  obtain ⟨ao, cap, h1, h2, _, _, h3⟩ := h
  rw [List.length_map] at h1 h2
  refine ⟨ao, cap, h1, h2, fun k hk => ?_⟩
  rcases h3 with h3 | ⟨b, off, e, h3⟩
  · have : l.length = 0 := by simpa using congrArg List.length h3
    omega
  · have h := h3 k (by rw [List.length_map]; exact hk)
    refine ⟨b, off, e, ?_, ?_⟩
    · exact (h 0 (by omega)).trans (by simp [IdD.cells])
    · exact (h 1 (by omega)).trans (by simp [IdD.cells])

/-- What stands at a place of a wide list. -/
def weE (l : List EnD) (j : Nat) : EnD := l.getD j ⟨0, ⟨⟨#[]⟩, markS (-3000000 - (j : Int))⟩⟩
/-- The first k of a wide list. -/
def WeE (l : List EnD) (k : Nat) (cs : List Value) : Prop := ∀ j, j < k → cs[j * 3]? = some (.int .i8 (weE l j).1) ∧ cs[j * 3 + 1]? = some (.string (weE l j).2.1) ∧ cs[j * 3 + 2]? = some (.string (weE l j).2.2)
/-- A wide list in block g. -/
def WidE (w : World) (g : Nat) (l : List EnD) : Prop := ∃ cs, w.ownsRow g 103 3 (.slice (some ⟨g, 0, none⟩) (l.length + 64) (l.length + 64)) (l.length + 64) cs ∧ WeE l (l.length + 64) cs

theorem WeE_step {l : List EnD} {k : Nat} {cs : List Value} (h : WeE l k cs) (hl : k * 3 + 3 ≤ cs.length) {x : EnD} (hx : x = weE l k) : WeE l (k + 1) (((cs.set (k * 3) (.int .i8 (x).1)).set (k * 3 + 1) (.string (x).2.1)).set (k * 3 + 2) (.string (x).2.2)) := by
  intro j hj
  by_cases hjk : j < k
  · obtain ⟨a0, a1, a2⟩ := h j hjk
    refine ⟨?_, ?_, ?_⟩
    · rw [List.getElem?_set_ne (by omega), List.getElem?_set_ne (by omega), List.getElem?_set_ne (by omega)]; exact a0
    · rw [List.getElem?_set_ne (by omega), List.getElem?_set_ne (by omega), List.getElem?_set_ne (by omega)]; exact a1
    · rw [List.getElem?_set_ne (by omega), List.getElem?_set_ne (by omega), List.getElem?_set_ne (by omega)]; exact a2
  · obtain rfl : j = k := by omega
    subst hx
    refine ⟨?_, ?_, ?_⟩
    · rw [List.getElem?_set_ne (by omega), List.getElem?_set_ne (by omega), List.getElem?_set_self (by first | omega | (simp only [List.length_set]; omega))]
    · rw [List.getElem?_set_ne (by omega), List.getElem?_set_self (by first | omega | (simp only [List.length_set]; omega))]
    · rw [List.getElem?_set_self (by first | omega | (simp only [List.length_set]; omega))]

theorem WidE.below {w w' : World} {g : Nat} {l : List EnD} (h : WidE w g l) (hB : Below w.heap.size w w') : WidE w' g l := by
  obtain ⟨cs, h1, h2⟩ := h
  exact ⟨cs, ownsRow_kept h1 (Below.kept hB) (fun k hk e => by have := (h1.lt k hk).2; omega), h2⟩

theorem WidE.kept {w w' : World} {S : Nat → Prop} {g : Nat} {l : List EnD} (h : WidE w g l) (hk : Kept w w' S) (hS : ¬ S g) : WidE w' g l := by
  obtain ⟨cs, h1, h2⟩ := h
  exact ⟨cs, ownsRow_kept h1 hk (fun k hk e => by cases hk; exact hS e), h2⟩

theorem WidE.sees {w : World} {g : Nat} {l : List EnD} (h : WidE w g l) (hl : l.length ≤ 2000000000) : SeesR w (.slice (some ⟨g, 0, none⟩) l.length (l.length + 64)) 3 (l.map EnD.cells) := by
  obtain ⟨cs, h1, h2⟩ := h
  refine ⟨_, _, by rw [List.length_map], by rw [List.length_map]; omega, by unfold maxLen; omega, fun e => by simp at e, .inr ⟨g, 0, rfl, fun i hi j hj => ?_⟩⟩
  rw [List.length_map] at hi
  have hw : weE l i = l[i] := by unfold weE; rw [List.getD_eq_getElem?_getD, List.getElem?_eq_getElem hi]; rfl
  obtain ⟨a0, a1, a2⟩ := h2 i (by omega)
  rw [hw] at a0 a1 a2
  rw [Nat.zero_add, List.getElem_map]
  rcases (show j = 0 ∨ j = 1 ∨ j = 2 by omega) with rfl | rfl | rfl
  · rw [h1.cellAt _ (by omega)]; simpa [EnD.cells] using a0
  · rw [h1.cellAt _ (by omega)]; simpa [EnD.cells] using a1
  · rw [h1.cellAt _ (by omega)]; simpa [EnD.cells] using a2

set_option maxHeartbeats 1000000 in
theorem wideAcl_rq (v : Value) (l : List EnD) (w : World) (h : SeesR w v 3 (l.map EnD.cells)) (hreach : l.length ≤ 2000000000) (ht : Tab w) (hg0 : 1 < w.heap.size) :
    Calls Tryz.prog 57 #[v] w fun e w' => e = .returned (.slice (some ⟨w.heap.size, 0, none⟩) l.length (l.length + 64)) ∧ WidE w' w.heap.size l ∧ Below w.heap.size w w' := by
  have HT : Hid (Tab w ∧ 1 < w.heap.size) := ⟨ht, hg0⟩
  clear ht hg0
  obtain ⟨ao, cap, rfl, hlc, HC⟩ := cellsEW h
  clear h
  obtain ⟨i0, hi, hz0, hz1, hz2⟩ := info_parts Tryz.infoEn
  go_enter Tryz.func57, Tryz.ntmps57
  go_wp2_with (at_make; refine wpList_make_full _ rfl _ _ 43 rfl w.heap.size 103 i0 (.agg #[.int .i8 0, .string ⟨#[]⟩, .string ⟨#[]⟩]) 3 Tryz.underlying43 hi hz0 hz1 .i64 .i64 _ _ (l.length + 64) rfl rfl (by omega) (by omega) (by rw [hz2]; omega) (by unfold maxLen; omega) (Nat.le_refl _) ?_)
  intro w0 hown0 hgrow0
  have hbel0 : Below w.heap.size w w0 := (Below.refl _ _).grown hgrow0 (Nat.le_refl _) (fun k hk => by simp at hk)
  have HO0 : Hid (Below w.heap.size w w0 ∧ ∃ cs, w0.ownsRow w.heap.size 103 3 (.slice (some ⟨w.heap.size, 0, none⟩) (l.length + 64) (l.length + 64)) (l.length + 64) cs ∧ WeE l 0 cs) := ⟨hbel0, _, hown0, fun j hj => by omega⟩
  clear hown0 hgrow0 hbel0
  go_wp2
  go_loopw [4] (fun i wr => ∃ k : Nat, k ≤ l.length + 64 ∧ i = .int .i64 k ∧ Hid (Below w.heap.size w wr ∧ ∃ cs, wr.ownsRow w.heap.size 103 3 (.slice (some ⟨w.heap.size, 0, none⟩) (l.length + 64) (l.length + 64)) (l.length + 64) cs ∧ WeE l k cs)) (fun i _ => l.length + 64 - (intOf i).toNat)
  case atStart => exact ⟨0, Nat.zero_le _, rfl, HO0⟩
  case round =>
    clear HO0 w0
    obtain ⟨k, hk, rfl, HO⟩ := hrel
    by_cases hlt : k < l.length + 64
    · by_cases hlx : k < l.length
      · obtain ⟨hbel, cs, hown, hwd⟩ := HO.out
        have hl : cs.length = (l.length + 64) * 3 := hown.1
        obtain ⟨b, off, rfl, k0, k1, k2⟩ := HC.out k hlx
        have l0 := cell_later k0 hbel (Nat.le_refl _)
        have l1 := cell_later k1 hbel (Nat.le_refl _)
        have l2 := cell_later k2 hbel (Nat.le_refl _)
        obtain ⟨x, hx⟩ : ∃ x, x = l[k] := ⟨_, rfl⟩
        rw [← hx] at k0 l0 k1 l1 k2 l2
        have hxw : x = weE l k := by unfold weE; rw [List.getD_eq_getElem?_getD, List.getElem?_eq_getElem hlx]; exact hx
        obtain ⟨u0, hu0⟩ : ∃ u, wr.cell? ⟨w.heap.size, k * 3, none⟩ = some u := ⟨cs[k * 3]'(by omega), by rw [hown.cellAt _ (by omega), List.getElem?_eq_getElem (by omega)]⟩
        obtain ⟨u1, hu1⟩ : ∃ u, wr.cell? ⟨w.heap.size, k * 3 + 1, none⟩ = some u := ⟨cs[k * 3 + 1]'(by omega), by rw [hown.cellAt _ (by omega), List.getElem?_eq_getElem (by omega)]⟩
        obtain ⟨u2, hu2⟩ : ∃ u, wr.cell? ⟨w.heap.size, k * 3 + 2, none⟩ = some u := ⟨cs[k * 3 + 2]'(by omega), by rw [hown.cellAt _ (by omega), List.getElem?_eq_getElem (by omega)]⟩
        have hfz0 := hown.frozenAt (k * 3)
        have hfz1 := hown.frozenAt (k * 3 + 1)
        have hfz2 := hown.frozenAt (k * 3 + 2)
        have R0 := (hown.stored (k * 3) (.int .i8 (x).1)).1
        have R1 := (R0.stored (k * 3 + 1) (.string (x).2.1)).1
        have R2 := (R1.stored (k * 3 + 2) (.string (x).2.2)).1
        have RB := ((hbel.setCell (p := ⟨w.heap.size, k * 3, none⟩) (Nat.le_refl _) (.int .i8 (x).1)).setCell (p := ⟨w.heap.size, k * 3 + 1, none⟩) (Nat.le_refl _) (.string (x).2.1)).setCell (p := ⟨w.heap.size, k * 3 + 2, none⟩) (Nat.le_refl _) (.string (x).2.2)
        have HR : Hid (_ ∧ ∃ cs', _ ∧ WeE l (k + 1) cs') := ⟨RB, _, R2, WeE_step hwd (by omega) hxw⟩
        clear R0 R1 R2 RB hwd hxw hx hl hown hbel HO HC k0 k1 k2
        go_wp2
        go_roundw
        case rel => exact ⟨k + 1, by omega, by go_num, HR⟩
        case measure => simp [intOf]; omega
      · go_wp2_with fail
        refine (mark_is _ _ (by omega) (by omega) (HT.out.1.below HO.out.1 HT.out.2)).mono ?_
        rintro e w1 ⟨rfl, hb1⟩
        obtain ⟨hbel0, cs, hown0, hwd⟩ := HO.out
        have hown := ownsRow_kept hown0 (Below.kept hb1) (fun k hk e => by have := (hown0.lt k hk).2; omega)
        have hbel : Below w.heap.size w w1 := hbel0.trans (hb1.mono hbel0.size)
        have hl : cs.length = (l.length + 64) * 3 := hown.1
        have hxw : (⟨0, ⟨⟨#[]⟩, markS (-3000000 - (k : Int))⟩⟩ : EnD) = weE l k := by unfold weE; rw [List.getD_eq_getElem?_getD, List.getElem?_eq_none (by omega)]; rfl
        obtain ⟨u0, hu0⟩ : ∃ u, w1.cell? ⟨w.heap.size, k * 3, none⟩ = some u := ⟨cs[k * 3]'(by omega), by rw [hown.cellAt _ (by omega), List.getElem?_eq_getElem (by omega)]⟩
        obtain ⟨u1, hu1⟩ : ∃ u, w1.cell? ⟨w.heap.size, k * 3 + 1, none⟩ = some u := ⟨cs[k * 3 + 1]'(by omega), by rw [hown.cellAt _ (by omega), List.getElem?_eq_getElem (by omega)]⟩
        obtain ⟨u2, hu2⟩ : ∃ u, w1.cell? ⟨w.heap.size, k * 3 + 2, none⟩ = some u := ⟨cs[k * 3 + 2]'(by omega), by rw [hown.cellAt _ (by omega), List.getElem?_eq_getElem (by omega)]⟩
        have hfz0 := hown.frozenAt (k * 3)
        have hfz1 := hown.frozenAt (k * 3 + 1)
        have hfz2 := hown.frozenAt (k * 3 + 2)
        generalize markS (-3000000 - (k : Int)) = ms at *
        have R0 := (hown.stored (k * 3) (.int .i8 (⟨0, ⟨⟨#[]⟩, ms⟩⟩ : EnD).1)).1
        have R1 := (R0.stored (k * 3 + 1) (.string (⟨0, ⟨⟨#[]⟩, ms⟩⟩ : EnD).2.1)).1
        have R2 := (R1.stored (k * 3 + 2) (.string (⟨0, ⟨⟨#[]⟩, ms⟩⟩ : EnD).2.2)).1
        have RB := ((hbel.setCell (p := ⟨w.heap.size, k * 3, none⟩) (Nat.le_refl _) (.int .i8 (⟨0, ⟨⟨#[]⟩, ms⟩⟩ : EnD).1)).setCell (p := ⟨w.heap.size, k * 3 + 1, none⟩) (Nat.le_refl _) (.string (⟨0, ⟨⟨#[]⟩, ms⟩⟩ : EnD).2.1)).setCell (p := ⟨w.heap.size, k * 3 + 2, none⟩) (Nat.le_refl _) (.string (⟨0, ⟨⟨#[]⟩, ms⟩⟩ : EnD).2.2)
        have HR : Hid (_ ∧ ∃ cs', _ ∧ WeE l (k + 1) cs') := ⟨RB, _, R2, WeE_step hwd (by omega) hxw⟩
        clear R0 R1 R2 RB hwd hxw hl hown hown0 hbel hbel0 hb1 HO HC
        go_wp2
        go_roundw
        case rel => exact ⟨k + 1, by omega, by go_num, HR⟩
        case measure => simp [intOf]; omega
    · obtain rfl : k = l.length + 64 := by omega
      clear HC
      go_wp2
      go_ret
      obtain ⟨hbel, cs, hown, hwd⟩ := HO.out
      exact ⟨rfl, ⟨cs, hown, hwd⟩, hbel⟩

/-- What stands at a place of a wide list. -/
def weI (l : List IdD) (j : Nat) : IdD := l.getD j ⟨⟨#[]⟩, markS (-3000000 - (j : Int))⟩
/-- The first k of a wide list. -/
def WeI (l : List IdD) (k : Nat) (cs : List Value) : Prop := ∀ j, j < k → cs[j * 2]? = some (.string (weI l j).1) ∧ cs[j * 2 + 1]? = some (.string (weI l j).2)
/-- A wide list in block g. -/
def WidI (w : World) (g : Nat) (l : List IdD) : Prop := ∃ cs, w.ownsRow g 101 2 (.slice (some ⟨g, 0, none⟩) (l.length + 64) (l.length + 64)) (l.length + 64) cs ∧ WeI l (l.length + 64) cs

theorem WeI_step {l : List IdD} {k : Nat} {cs : List Value} (h : WeI l k cs) (hl : k * 2 + 2 ≤ cs.length) {x : IdD} (hx : x = weI l k) : WeI l (k + 1) ((cs.set (k * 2) (.string (x).1)).set (k * 2 + 1) (.string (x).2)) := by
  intro j hj
  by_cases hjk : j < k
  · obtain ⟨a0, a1⟩ := h j hjk
    refine ⟨?_, ?_⟩
    · rw [List.getElem?_set_ne (by omega), List.getElem?_set_ne (by omega)]; exact a0
    · rw [List.getElem?_set_ne (by omega), List.getElem?_set_ne (by omega)]; exact a1
  · obtain rfl : j = k := by omega
    subst hx
    refine ⟨?_, ?_⟩
    · rw [List.getElem?_set_ne (by omega), List.getElem?_set_self (by first | omega | (simp only [List.length_set]; omega))]
    · rw [List.getElem?_set_self (by first | omega | (simp only [List.length_set]; omega))]

theorem WidI.below {w w' : World} {g : Nat} {l : List IdD} (h : WidI w g l) (hB : Below w.heap.size w w') : WidI w' g l := by
  obtain ⟨cs, h1, h2⟩ := h
  exact ⟨cs, ownsRow_kept h1 (Below.kept hB) (fun k hk e => by have := (h1.lt k hk).2; omega), h2⟩

theorem WidI.kept {w w' : World} {S : Nat → Prop} {g : Nat} {l : List IdD} (h : WidI w g l) (hk : Kept w w' S) (hS : ¬ S g) : WidI w' g l := by
  obtain ⟨cs, h1, h2⟩ := h
  exact ⟨cs, ownsRow_kept h1 hk (fun k hk e => by cases hk; exact hS e), h2⟩

theorem WidI.sees {w : World} {g : Nat} {l : List IdD} (h : WidI w g l) (hl : l.length ≤ 2000000000) : SeesR w (.slice (some ⟨g, 0, none⟩) l.length (l.length + 64)) 2 (l.map IdD.cells) := by
  obtain ⟨cs, h1, h2⟩ := h
  refine ⟨_, _, by rw [List.length_map], by rw [List.length_map]; omega, by unfold maxLen; omega, fun e => by simp at e, .inr ⟨g, 0, rfl, fun i hi j hj => ?_⟩⟩
  rw [List.length_map] at hi
  have hw : weI l i = l[i] := by unfold weI; rw [List.getD_eq_getElem?_getD, List.getElem?_eq_getElem hi]; rfl
  obtain ⟨a0, a1⟩ := h2 i (by omega)
  rw [hw] at a0 a1
  rw [Nat.zero_add, List.getElem_map]
  rcases (show j = 0 ∨ j = 1 by omega) with rfl | rfl
  · rw [h1.cellAt _ (by omega)]; simpa [IdD.cells] using a0
  · rw [h1.cellAt _ (by omega)]; simpa [IdD.cells] using a1

set_option maxHeartbeats 1000000 in
theorem wideIds_rq (v : Value) (l : List IdD) (w : World) (h : SeesR w v 2 (l.map IdD.cells)) (hreach : l.length ≤ 2000000000) (ht : Tab w) (hg0 : 1 < w.heap.size) :
    Calls Tryz.prog 58 #[v] w fun e w' => e = .returned (.slice (some ⟨w.heap.size, 0, none⟩) l.length (l.length + 64)) ∧ WidI w' w.heap.size l ∧ Below w.heap.size w w' := by
  have HT : Hid (Tab w ∧ 1 < w.heap.size) := ⟨ht, hg0⟩
  clear ht hg0
  obtain ⟨ao, cap, rfl, hlc, HC⟩ := cellsIW h
  clear h
  obtain ⟨i0, hi, hz0, hz1, hz2⟩ := info_parts Tryz.infoId
  go_enter Tryz.func58, Tryz.ntmps58
  go_wp2_with (at_make; refine wpList_make_full _ rfl _ _ 44 rfl w.heap.size 101 i0 (.agg #[.string ⟨#[]⟩, .string ⟨#[]⟩]) 2 Tryz.underlying44 hi hz0 hz1 .i64 .i64 _ _ (l.length + 64) rfl rfl (by omega) (by omega) (by rw [hz2]; omega) (by unfold maxLen; omega) (Nat.le_refl _) ?_)
  intro w0 hown0 hgrow0
  have hbel0 : Below w.heap.size w w0 := (Below.refl _ _).grown hgrow0 (Nat.le_refl _) (fun k hk => by simp at hk)
  have HO0 : Hid (Below w.heap.size w w0 ∧ ∃ cs, w0.ownsRow w.heap.size 101 2 (.slice (some ⟨w.heap.size, 0, none⟩) (l.length + 64) (l.length + 64)) (l.length + 64) cs ∧ WeI l 0 cs) := ⟨hbel0, _, hown0, fun j hj => by omega⟩
  clear hown0 hgrow0 hbel0
  go_wp2
  go_loopw [4] (fun i wr => ∃ k : Nat, k ≤ l.length + 64 ∧ i = .int .i64 k ∧ Hid (Below w.heap.size w wr ∧ ∃ cs, wr.ownsRow w.heap.size 101 2 (.slice (some ⟨w.heap.size, 0, none⟩) (l.length + 64) (l.length + 64)) (l.length + 64) cs ∧ WeI l k cs)) (fun i _ => l.length + 64 - (intOf i).toNat)
  case atStart => exact ⟨0, Nat.zero_le _, rfl, HO0⟩
  case round =>
    clear HO0 w0
    obtain ⟨k, hk, rfl, HO⟩ := hrel
    by_cases hlt : k < l.length + 64
    · by_cases hlx : k < l.length
      · obtain ⟨hbel, cs, hown, hwd⟩ := HO.out
        have hl : cs.length = (l.length + 64) * 2 := hown.1
        obtain ⟨b, off, rfl, k0, k1⟩ := HC.out k hlx
        have l0 := cell_later k0 hbel (Nat.le_refl _)
        have l1 := cell_later k1 hbel (Nat.le_refl _)
        obtain ⟨x, hx⟩ : ∃ x, x = l[k] := ⟨_, rfl⟩
        rw [← hx] at k0 l0 k1 l1
        have hxw : x = weI l k := by unfold weI; rw [List.getD_eq_getElem?_getD, List.getElem?_eq_getElem hlx]; exact hx
        obtain ⟨u0, hu0⟩ : ∃ u, wr.cell? ⟨w.heap.size, k * 2, none⟩ = some u := ⟨cs[k * 2]'(by omega), by rw [hown.cellAt _ (by omega), List.getElem?_eq_getElem (by omega)]⟩
        obtain ⟨u1, hu1⟩ : ∃ u, wr.cell? ⟨w.heap.size, k * 2 + 1, none⟩ = some u := ⟨cs[k * 2 + 1]'(by omega), by rw [hown.cellAt _ (by omega), List.getElem?_eq_getElem (by omega)]⟩
        have hfz0 := hown.frozenAt (k * 2)
        have hfz1 := hown.frozenAt (k * 2 + 1)
        have R0 := (hown.stored (k * 2) (.string (x).1)).1
        have R1 := (R0.stored (k * 2 + 1) (.string (x).2)).1
        have RB := (hbel.setCell (p := ⟨w.heap.size, k * 2, none⟩) (Nat.le_refl _) (.string (x).1)).setCell (p := ⟨w.heap.size, k * 2 + 1, none⟩) (Nat.le_refl _) (.string (x).2)
        have HR : Hid (_ ∧ ∃ cs', _ ∧ WeI l (k + 1) cs') := ⟨RB, _, R1, WeI_step hwd (by omega) hxw⟩
        clear R0 R1 RB hwd hxw hx hl hown hbel HO HC k0 k1
        go_wp2
        go_roundw
        case rel => exact ⟨k + 1, by omega, by go_num, HR⟩
        case measure => simp [intOf]; omega
      · go_wp2_with fail
        refine (mark_is _ _ (by omega) (by omega) (HT.out.1.below HO.out.1 HT.out.2)).mono ?_
        rintro e w1 ⟨rfl, hb1⟩
        obtain ⟨hbel0, cs, hown0, hwd⟩ := HO.out
        have hown := ownsRow_kept hown0 (Below.kept hb1) (fun k hk e => by have := (hown0.lt k hk).2; omega)
        have hbel : Below w.heap.size w w1 := hbel0.trans (hb1.mono hbel0.size)
        have hl : cs.length = (l.length + 64) * 2 := hown.1
        have hxw : (⟨⟨#[]⟩, markS (-3000000 - (k : Int))⟩ : IdD) = weI l k := by unfold weI; rw [List.getD_eq_getElem?_getD, List.getElem?_eq_none (by omega)]; rfl
        obtain ⟨u0, hu0⟩ : ∃ u, w1.cell? ⟨w.heap.size, k * 2, none⟩ = some u := ⟨cs[k * 2]'(by omega), by rw [hown.cellAt _ (by omega), List.getElem?_eq_getElem (by omega)]⟩
        obtain ⟨u1, hu1⟩ : ∃ u, w1.cell? ⟨w.heap.size, k * 2 + 1, none⟩ = some u := ⟨cs[k * 2 + 1]'(by omega), by rw [hown.cellAt _ (by omega), List.getElem?_eq_getElem (by omega)]⟩
        have hfz0 := hown.frozenAt (k * 2)
        have hfz1 := hown.frozenAt (k * 2 + 1)
        generalize markS (-3000000 - (k : Int)) = ms at *
        have R0 := (hown.stored (k * 2) (.string (⟨⟨#[]⟩, ms⟩ : IdD).1)).1
        have R1 := (R0.stored (k * 2 + 1) (.string (⟨⟨#[]⟩, ms⟩ : IdD).2)).1
        have RB := (hbel.setCell (p := ⟨w.heap.size, k * 2, none⟩) (Nat.le_refl _) (.string (⟨⟨#[]⟩, ms⟩ : IdD).1)).setCell (p := ⟨w.heap.size, k * 2 + 1, none⟩) (Nat.le_refl _) (.string (⟨⟨#[]⟩, ms⟩ : IdD).2)
        have HR : Hid (_ ∧ ∃ cs', _ ∧ WeI l (k + 1) cs') := ⟨RB, _, R1, WeI_step hwd (by omega) hxw⟩
        clear R0 R1 RB hwd hxw hl hown hown0 hbel hbel0 hb1 HO HC
        go_wp2
        go_roundw
        case rel => exact ⟨k + 1, by omega, by go_num, HR⟩
        case measure => simp [intOf]; omega
    · obtain rfl : k = l.length + 64 := by omega
      clear HC
      go_wp2
      go_ret
      obtain ⟨hbel, cs, hown, hwd⟩ := HO.out
      exact ⟨rfl, ⟨cs, hown, hwd⟩, hbel⟩

end Go.Proofs.YtobnggkgpenmfaaGreatDoor

/- Letters, has, ids, acl of the document's layer 4. -/
namespace Go.Proofs.YtobnggkgpenmfaaGreatDoor
open Go.RowKit
set_option maxRecDepth 8000

/-- What a kind names, as the document's letters. -/
def lt4 (k : Int) : ByteArray :=
  if k = 1 then ⟨#[112, 100, 97, 102, 115, 119]⟩ else if k = 2 ∨ k = 5 then ⟨#[112, 118, 115, 119]⟩ else if k = 3 then ⟨#[112, 100, 118, 115, 119]⟩ else if k = 4 then ⟨#[112, 97, 118, 115, 119]⟩
  else if k = 6 then ⟨#[115, 119, 111]⟩ else if k = 7 then ⟨#[116]⟩ else if k = 8 then ⟨#[115]⟩ else if k = 9 ∨ k = 10 ∨ k = 11 ∨ k = 12 then ⟨#[112, 115, 119]⟩ else ⟨#[]⟩

theorem letters_any (k : Int) (w : World) : Calls Tryz.prog 86 #[.int .i8 k] w fun r w' => r = .returned (.string (lt4 k)) ∧ w' = w := by
  go_enter Tryz.func86, Tryz.ntmps86
  go_wp2
  all_goals (go_ret; refine ⟨?_, rfl⟩; unfold lt4; simp at *; simp [*])

/-- Does a text have a letter? -/
def hasB (s : ByteArray) (c : Int) : Bool := s.data.toList.any (fun b => decide ((b.toNat : Int) = c))

theorem hasB_true {s : ByteArray} {c : Int} {i : Nat} (h : i < s.size) (e : ((s[i]).toNat : Int) = c) : hasB s c = true := by
  unfold hasB
  rw [List.any_eq_true]
  refine ⟨s[i], ?_, by simpa using e⟩
  show s.data[i] ∈ s.data.toList
  simp
theorem hasB_false {s : ByteArray} {c : Int} (h : ∀ i (hi : i < s.size), ((s[i]).toNat : Int) ≠ c) : hasB s c = false := by
  unfold hasB
  rw [List.any_eq_false]
  intro b hb
  obtain ⟨i, hi, rfl⟩ := List.getElem_of_mem hb
  have : ((s.data[i]).toNat : Int) ≠ c := h i (by simpa using hi)
  simpa using this

set_option maxHeartbeats 1000000 in
theorem has_any (s : ByteArray) (c : Int) (w : World) (hs : s.size ≤ 1000) : Calls Tryz.prog 109 #[.string s, .int .u8 c] w fun r w' => r = .returned (.bool (hasB s c)) ∧ w' = w := by
  go_enter Tryz.func109, Tryz.ntmps109
  go_wp2
  go_loop [5] (fun i => ∃ k : Nat, k ≤ s.size ∧ i = .int .i64 k ∧ Hid (∀ j (hj : j < s.size), j < k → ((s[j]).toNat : Int) ≠ c)) (fun i => s.size - (intOf i).toNat)
  case atStart => exact ⟨0, Nat.zero_le _, rfl, fun j _ h => by omega⟩
  case round =>
    obtain ⟨k, hk, rfl, HN⟩ := hrel
    by_cases hlt : k < s.size
    · by_cases he : ((s[k]).toNat : Int) = c
      · have HT : Hid (hasB s c = true) := hasB_true hlt he
        have he' : (((s[k]).toNat : Int) == c) = true := by simpa using he
        go_wp2
        all_goals (go_ret; exact ⟨by rw [HT.out]; rfl, rfl⟩)
      · have HN2 : Hid (∀ j (hj : j < s.size), j < k + 1 → ((s[j]).toNat : Int) ≠ c) := fun j hj h => by
          by_cases e : j = k
          · subst e; exact he
          · exact HN.out j hj (by omega)
        have he' : (((s[k]).toNat : Int) == c) = false := by simpa using he
        go_wp2
        go_round
        case rel => exact ⟨k + 1, by omega, by go_num, HN2⟩
        case measure => simp [intOf]; omega
    · have HF : Hid (hasB s c = false) := hasB_false (fun i hi => HN.out i hi (by omega))
      go_wp2
      go_ret
      exact ⟨by rw [HF.out]; rfl, rfl⟩

set_option maxHeartbeats 1000000 in
theorem refIds_any (v : Value) (l : List IdD) (w : World) (h : SeesR w v 2 (l.map IdD.cells)) (hl : l.length ≤ 140737488355328) (hg : ∀ x ∈ l, x.scheme.size ≤ 140737488355328 ∧ x.name.size ≤ 140737488355328) :
    Calls Tryz.prog 111 #[v] w fun r w' => r = .returned (.bool (whoOk l)) ∧ w' = w := by
  obtain ⟨ao, cap, rfl, hlc, HC⟩ := cellsIW h
  have HG : Hid (∀ x ∈ l, x.scheme.size ≤ 140737488355328 ∧ x.name.size ≤ 140737488355328) := hg
  clear h hg
  go_enter Tryz.func111, Tryz.ntmps111
  go_wp2
  go_loop [3] (fun i => ∃ k : Nat, k ≤ l.length ∧ i = .int .i64 k ∧ Hid (∀ x ∈ l.take k, idOk x = true)) (fun i => l.length - (intOf i).toNat)
  case atStart => exact ⟨0, Nat.zero_le _, rfl, fun x hx => by simp at hx⟩
  case round =>
    obtain ⟨k, hk, rfl, HN⟩ := hrel
    by_cases hlt : k < l.length
    · obtain ⟨b, off, rfl, k0, k1⟩ := HC.out k hlt
      obtain ⟨g0, g1⟩ := HG.out l[k] (List.getElem_mem hlt)
      have HM : Hid (l[k] ∈ l ∧ l.take (k + 1) = l.take k ++ [l[k]]) := ⟨List.getElem_mem hlt, List.take_succ_eq_append_getElem hlt⟩
      clear HC HG
      generalize l[k] = x at *
      by_cases ho : idOk x = true
      · have hs : x.scheme.size ≤ 24 ∧ x.name.size ≤ 24 := by unfold idOk at ho; simpa using ho
        obtain ⟨hs0, hs1⟩ := hs
        have HN2 : Hid (∀ y ∈ l.take (k + 1), idOk y = true) := fun y hy => by
          rw [HM.out.2] at hy
          rcases List.mem_append.1 hy with h | h
          · exact HN.out y h
          · obtain rfl : y = x := by simpa using h
            exact ho
        clear HM HN ho
        go_wp2
        go_round
        case rel => exact ⟨k + 1, by omega, by go_num, HN2⟩
        case measure => simp [intOf]; omega
      · have HF : Hid (whoOk l = false) := by
          show _ = _
          unfold whoOk
          rw [Bool.and_eq_false_iff]
          right
          rw [List.all_eq_false]
          exact ⟨x, HM.out.1, ho⟩
        have hs : 24 < x.scheme.size ∨ (x.scheme.size ≤ 24 ∧ 24 < x.name.size) := by unfold idOk at ho; simp at ho; omega
        clear HM HN ho
        rcases hs with hs0 | ⟨hs0, hs1⟩
        · go_wp2
          go_ret
          exact ⟨by rw [HF.out]; rfl, rfl⟩
        · go_wp2
          go_ret
          exact ⟨by rw [HF.out]; rfl, rfl⟩
    · obtain rfl : k = l.length := by omega
      have HT : Hid (whoOk l = decide ((l.length : Int) ≤ 4)) := by
        show _ = _
        unfold whoOk
        have : l.all (fun x => idOk x) = true := by
          rw [List.all_eq_true]
          intro x hx
          exact HN.out x (by rw [List.take_length]; exact hx)
        rw [this, Bool.and_true]
      clear HC HG HN
      go_wp2
      go_ret
      exact ⟨by rw [HT.out]; first | rfl | simp, rfl⟩

set_option maxHeartbeats 1000000 in
theorem refAcl_any (v : Value) (l : List EnD) (w : World) (h : SeesR w v 3 (l.map EnD.cells)) (hl : l.length ≤ 140737488355328) (hg : ∀ x ∈ l, x.id.scheme.size ≤ 140737488355328 ∧ x.id.name.size ≤ 140737488355328) :
    Calls Tryz.prog 110 #[v] w fun r w' => r = .returned (.bool (aclOk l)) ∧ w' = w := by
  obtain ⟨ao, cap, rfl, hlc, HC⟩ := cellsEW h
  have HG : Hid (∀ x ∈ l, x.id.scheme.size ≤ 140737488355328 ∧ x.id.name.size ≤ 140737488355328) := hg
  clear h hg
  go_enter Tryz.func110, Tryz.ntmps110
  go_wp2
  go_loop [3] (fun i => ∃ k : Nat, k ≤ l.length ∧ i = .int .i64 k ∧ Hid (∀ x ∈ l.take k, idOk x.id = true)) (fun i => l.length - (intOf i).toNat)
  case atStart => exact ⟨0, Nat.zero_le _, rfl, fun x hx => by simp at hx⟩
  case round =>
    obtain ⟨k, hk, rfl, HN⟩ := hrel
    by_cases hlt : k < l.length
    · obtain ⟨b, off, rfl, k0, k1, k2⟩ := HC.out k hlt
      obtain ⟨g0, g1⟩ := HG.out l[k] (List.getElem_mem hlt)
      have HM : Hid (l[k] ∈ l ∧ l.take (k + 1) = l.take k ++ [l[k]]) := ⟨List.getElem_mem hlt, List.take_succ_eq_append_getElem hlt⟩
      clear HC HG
      generalize l[k] = x at *
      by_cases ho : idOk x.id = true
      · have hs : x.id.scheme.size ≤ 24 ∧ x.id.name.size ≤ 24 := by unfold idOk at ho; simpa using ho
        obtain ⟨hs0, hs1⟩ := hs
        have HN2 : Hid (∀ y ∈ l.take (k + 1), idOk y.id = true) := fun y hy => by
          rw [HM.out.2] at hy
          rcases List.mem_append.1 hy with h | h
          · exact HN.out y h
          · obtain rfl : y = x := by simpa using h
            exact ho
        clear HM HN ho
        go_wp2
        go_round
        case rel => exact ⟨k + 1, by omega, by go_num, HN2⟩
        case measure => simp [intOf]; omega
      · have HF : Hid (aclOk l = false) := by
          show _ = _
          unfold aclOk
          rw [Bool.and_eq_false_iff]
          right
          rw [List.all_eq_false]
          exact ⟨x, HM.out.1, ho⟩
        have hs : 24 < x.id.scheme.size ∨ (x.id.scheme.size ≤ 24 ∧ 24 < x.id.name.size) := by unfold idOk at ho; simp at ho; omega
        clear HM HN ho
        rcases hs with hs0 | ⟨hs0, hs1⟩
        · go_wp2
          go_ret
          exact ⟨by rw [HF.out]; rfl, rfl⟩
        · go_wp2
          go_ret
          exact ⟨by rw [HF.out]; rfl, rfl⟩
    · obtain rfl : k = l.length := by omega
      have HT : Hid (aclOk l = decide ((l.length : Int) ≤ 4)) := by
        show _ = _
        unfold aclOk
        have : l.all (fun x => idOk x.id) = true := by
          rw [List.all_eq_true]
          intro x hx
          exact HN.out x (by rw [List.take_length]; exact hx)
        rw [this, Bool.and_true]
      clear HC HG HN
      go_wp2
      go_ret
      exact ⟨by rw [HT.out]; first | rfl | simp, rfl⟩
end Go.Proofs.YtobnggkgpenmfaaGreatDoor

/- The document's bytes of a request, letter by letter: they are the program's. -/
namespace Go.Proofs.YtobnggkgpenmfaaGreatDoor
open Go.RowKit
set_option maxRecDepth 8000

/-- What a letter lays. -/
def encLet (inner : Bool) (f : RqF) (more : List Int) (c : Int) : List Int :=
  if c = 112 then txtB f.path else if c = 100 then be4 f.data.length ++ f.data else if c = 97 then be4 f.acl.length ++ acB f.acl else if c = 118 then be4 (up32 f.ver)
  else if c = 102 then [b2i f.eph] ++ [b2i f.seq] else if c = 115 then (if inner then [] else be8 (up64 f.ses)) else if c = 116 then be4 (up32 f.tmo)
  else if c = 119 then (if inner then [] else be4 f.who.length ++ idsB f.who) else if c = 111 then more else []

/-- What the first i letters lay. -/
def encTo (inner : Bool) (f : RqF) (more : List Int) (s : ByteArray) (i : Nat) : List Int := (s.data.toList.take i).flatMap fun b => encLet inner f more (b.toNat : Int)

theorem encTo_next (inner : Bool) (f : RqF) (more : List Int) (s : ByteArray) (i : Nat) (h : i < s.size) : encTo inner f more s (i + 1) = encTo inner f more s i ++ encLet inner f more ((s[i]).toNat : Int) := by
  have h' : i < s.data.toList.length := by simpa using h
  unfold encTo
  rw [List.take_succ_eq_append_getElem h', List.flatMap_append]
  simp only [List.flatMap_cons, List.flatMap_nil, List.append_nil, Array.getElem_toList]
  rfl

theorem lt4_letters (k : Int) (i : Nat) (h : i < (lt4 k).size) : ((lt4 k)[i]).toNat = 112 ∨ ((lt4 k)[i]).toNat = 100 ∨ ((lt4 k)[i]).toNat = 97 ∨ ((lt4 k)[i]).toNat = 118 ∨ ((lt4 k)[i]).toNat = 102 ∨ ((lt4 k)[i]).toNat = 115 ∨ ((lt4 k)[i]).toNat = 116 ∨ ((lt4 k)[i]).toNat = 119 ∨ (((lt4 k)[i]).toNat = 111 ∧ k = 6) := by
  have hm : (lt4 k)[i] ∈ (lt4 k).data.toList := by
    show (lt4 k).data[i] ∈ _
    simp
  generalize (lt4 k)[i] = b at hm ⊢
  clear h
  unfold lt4 at hm
  repeat' split at hm
  all_goals (simp at hm)
  all_goals (repeat' (rcases hm with hm | hm))
  all_goals (simp [*])

theorem acB_small (l : List EnD) (h : ∀ x ∈ l, x.id.scheme.size ≤ 24 ∧ x.id.name.size ≤ 24) : (acB l).length ≤ 57 * l.length := by
  induction l with
  | nil => simp [acB]
  | cons x l ih =>
    have e : acB (x :: l) = enB x ++ acB l := by simp [acB]
    have h1 := h x (by simp)
    have h2 := ih (fun y hy => h y (by simp [hy]))
    rw [e, List.length_append, enB, List.length_append, idB, List.length_append, txtB_len, txtB_len]
    simp only [List.length_cons, List.length_nil]
    omega

theorem idsB_small (l : List IdD) (h : ∀ x ∈ l, x.scheme.size ≤ 24 ∧ x.name.size ≤ 24) : (idsB l).length ≤ 56 * l.length := by
  induction l with
  | nil => simp [idsB]
  | cons x l ih =>
    have e : idsB (x :: l) = idB x ++ idsB l := by simp [idsB]
    have h1 := h x (by simp)
    have h2 := ih (fun y hy => h y (by simp [hy]))
    rw [e, List.length_append, idB, List.length_append, txtB_len, txtB_len, List.length_cons]
    omega

theorem encLet_len (inner : Bool) (f : RqF) (more : List Int) (c : Int) (M : Nat) (hM : 1000 ≤ M) (hb : bdOk f = true) (hm : more.length ≤ M) : (encLet inner f more c).length ≤ M := by
  have h := bdOk_inv hb
  have ha := acB_small f.acl h.2.2.2.1
  have hi := idsB_small f.who h.2.2.2.2.2.2.2.2
  have ht := txtB_len f.path
  unfold encLet
  repeat' split
  all_goals (simp [be4, be8]; try omega)

theorem encTo_len (inner : Bool) (f : RqF) (more : List Int) (s : ByteArray) (M : Nat) (hM : 1000 ≤ M) (hb : bdOk f = true) (hm : more.length ≤ M) : ∀ i, i ≤ s.size → (encTo inner f more s i).length ≤ M * i
  | 0, _ => by simp [encTo]
  | i + 1, h => by
    have h1 := encTo_len inner f more s M hM hb hm i (by omega)
    have h2 := encLet_len inner f more ((s[i]).toNat : Int) M hM hb hm
    rw [encTo_next inner f more s i (by omega), List.length_append, Nat.mul_add, Nat.mul_one]
    omega

/-- An inner request's bytes. -/
theorem encTo_in (f : RqF) (n : Nat) (ops : Fin n → Rq) (more : List Int) (h1 : 1 ≤ f.kind) (h5 : f.kind ≤ 5) : [f.kind % 256] ++ encTo true f more (lt4 f.kind) (lt4 f.kind).size = encIn (.mk f n ops) := by
  obtain ⟨kind, path, data, acl, ver, eph, seq, ses, tmo, who⟩ := f
  simp only at h1 h5
  have hk : kind = 1 ∨ kind = 2 ∨ kind = 3 ∨ kind = 4 ∨ kind = 5 := by omega
  rcases hk with rfl | rfl | rfl | rfl | rfl <;> simp [encTo, lt4, encLet, encIn_mk, encP, ByteArray.size]

theorem lt4_six (k : Int) : (lt4 k).size ≤ 6 := by
  unfold lt4
  repeat' split
  all_goals decide

theorem encIn_small (r : Rq) (h : r.inOk = true) : (encIn r).length ≤ 6001 := by
  cases r with
  | mk f n ops =>
    obtain ⟨h1, h5, hb⟩ := inOk_inv h
    have h2 := encTo_len true f [] (lt4 f.kind) 1000 (Nat.le_refl _) hb (by simp) (lt4 f.kind).size (Nat.le_refl _)
    have h3 := lt4_six f.kind
    rw [← encTo_in f n ops [] h1 h5, List.length_append]
    simp only [List.length_cons, List.length_nil]
    omega

theorem opsB_small {n : Nat} (ops : Fin n → Rq) (hok : ∀ i, (ops i).inOk = true) : ∀ k, k ≤ n → (opsB ops k).length ≤ 6001 * k
  | 0, _ => by simp [opsB]
  | k + 1, h => by
    have h1 := opsB_small ops hok k (by omega)
    have h2 := encIn_small (ops ⟨k, by omega⟩) (hok _)
    rw [opsB_next ops k (by omega), List.length_append]
    omega

/-- A transaction's request's bytes. -/
theorem encTo_out (f : RqF) (n : Nat) (ops : Fin n → Rq) (h1 : 1 ≤ f.kind) (h8 : f.kind ≤ 8) : [f.kind % 256] ++ encTo false f (be4 n ++ opsB ops n) (lt4 f.kind) (lt4 f.kind).size = encOut (.mk f n ops) := by
  obtain ⟨kind, path, data, acl, ver, eph, seq, ses, tmo, who⟩ := f
  simp only at h1 h8
  have hk : kind = 1 ∨ kind = 2 ∨ kind = 3 ∨ kind = 4 ∨ kind = 5 ∨ kind = 6 ∨ kind = 7 ∨ kind = 8 := by omega
  rcases hk with rfl | rfl | rfl | rfl | rfl | rfl | rfl | rfl <;> simp [encTo, lt4, encLet, encOut_mk, encP, ByteArray.size]
end Go.Proofs.YtobnggkgpenmfaaGreatDoor

/- Lists that are written over where they lie, each part by one of its form: what a request in memory is then. No Go function is walked here. -/
namespace Go.Proofs.YtobnggkgpenmfaaGreatDoor
open Go.RowKit
set_option maxRecDepth 8000

/-- A value of the same form. -/
inductive FrmV : Value → Value → Prop where
  | same (u : Value) : FrmV u u
  | byte (x y : Int) (h0 : 0 ≤ y) (h1 : y ≤ 255) : FrmV (.int .u8 x) (.int .u8 y)
  | small (x y : Int) (h0 : -128 ≤ y) (h1 : y ≤ 127) : FrmV (.int .i8 x) (.int .i8 y)
  | text (s t : ByteArray) (h : t.size ≤ 140737488355328) : FrmV (.string s) (.string t)

/-- Cells hold values of the same form as before. -/
structure Turns (w w' : World) : Prop where
  cell : ∀ g c u, w.cell? ⟨g, c, none⟩ = some u → ∃ u', w'.cell? ⟨g, c, none⟩ = some u' ∧ FrmV u u'

theorem Turns.refl (w : World) : Turns w w := ⟨fun _ _ u h => ⟨u, h, .same u⟩⟩

theorem Turns.set {w wr : World} (h : Turns w wr) {g c : Nat} {u v : Value} (hc : w.cell? ⟨g, c, none⟩ = some u) (hf : FrmV u v) : Turns w (wr.setCell ⟨g, c, none⟩ v) := by
  refine ⟨fun g' c' u' h' => ?_⟩
  by_cases e : (⟨g, c, none⟩ : Addr) = ⟨g', c', none⟩
  · rw [← e] at h' ⊢
    rw [hc] at h'
    cases h'
    obtain ⟨u1, h1, _⟩ := h.cell g c u hc
    exact ⟨v, World.cell?_setCell_same _ _ _ h1, hf⟩
  · obtain ⟨u1, h1, h2⟩ := h.cell g' c' u' h'
    exact ⟨u1, by rw [World.cell?_setCell_other (h := e)]; exact h1, h2⟩

theorem frm_slice {a : Option Addr} {n c : Nat} {u : Value} (h : FrmV (.slice a n c) u) : u = .slice a n c := by cases h; rfl
theorem frm_bool {b : Bool} {u : Value} (h : FrmV (.bool b) u) : u = .bool b := by cases h; rfl
theorem frm_i32 {x : Int} {u : Value} (h : FrmV (.int .i32 x) u) : u = .int .i32 x := by cases h; rfl
theorem frm_i64 {x : Int} {u : Value} (h : FrmV (.int .i64 x) u) : u = .int .i64 x := by cases h; rfl
theorem frm_i8 {x : Int} {u : Value} (h : FrmV (.int .i8 x) u) (h0 : -128 ≤ x) (h1 : x ≤ 127) : ∃ y, u = .int .i8 y ∧ -128 ≤ y ∧ y ≤ 127 := by
  cases h with
  | same => exact ⟨x, rfl, h0, h1⟩
  | small _ y a b => exact ⟨y, rfl, a, b⟩
theorem frm_u8 {x : Int} {u : Value} (h : FrmV (.int .u8 x) u) (h0 : 0 ≤ x) (h1 : x ≤ 255) : ∃ y, u = .int .u8 y ∧ 0 ≤ y ∧ y ≤ 255 := by
  cases h with
  | same => exact ⟨x, rfl, h0, h1⟩
  | byte _ y a b => exact ⟨y, rfl, a, b⟩
theorem frm_str {s : ByteArray} {u : Value} (h : FrmV (.string s) u) (h0 : s.size ≤ 140737488355328) : ∃ t, u = .string t ∧ t.size ≤ 140737488355328 := by
  cases h with
  | same => exact ⟨s, rfl, h0⟩
  | text _ t a => exact ⟨t, rfl, a⟩

/-- Bytes. -/
theorem Sees.turns {w w' : World} (ht : Turns w w') {v : Value} {xs : List Int} (h : Sees w v xs) (hb : Byts xs) : ∃ ys : List Int, ys.length = xs.length ∧ Byts ys ∧ Sees w' v ys := by
  obtain ⟨ao, cap, rfl, h1, h2, h0, h3⟩ := h
  rcases h3 with rfl | ⟨b, off, rfl, h3⟩
  · exact ⟨[], rfl, hb, ao, cap, rfl, h1, h2, h0, .inl rfl⟩
  have step : ∀ i, ∃ y : Int, i < xs.length → w'.cell? ⟨b, off + i, none⟩ = some (.int .u8 y) ∧ 0 ≤ y ∧ y ≤ 255 := fun i => by
    by_cases hi : i < xs.length
    · obtain ⟨u', a1, a2⟩ := ht.cell _ _ _ (h3 i hi)
      have hx := hb (xs.getD i 0) (by rw [List.getD_eq_getElem?_getD, List.getElem?_eq_getElem hi]; exact List.getElem_mem hi)
      obtain ⟨y, rfl, b0, b1⟩ := frm_u8 a2 hx.1 hx.2
      exact ⟨y, fun _ => ⟨a1, b0, b1⟩⟩
    · exact ⟨0, fun h => absurd h hi⟩
  obtain ⟨f, hf⟩ := Classical.axiomOfChoice step
  refine ⟨(List.range xs.length).map f, by simp, fun y hy => ?_, some ⟨b, off, none⟩, cap, by simp, by simpa using h1, h2, fun e => by simp at e, .inr ⟨b, off, rfl, fun i hi => ?_⟩⟩
  · obtain ⟨i, hi, rfl⟩ := List.mem_map.1 hy
    exact (hf i (List.mem_range.1 hi)).2
  · have hi' : i < xs.length := by simpa using hi
    have e : ((List.range xs.length).map f).getD i 0 = f i := by simp [List.getD_eq_getElem?_getD, hi']
    rw [e]
    exact (hf i hi').1

/-- Elements of z cells. -/
theorem SeesR.turns {w w' : World} (ht : Turns w w') {v : Value} {z : Nat} {cs : List (List Value)} (h : SeesR w v z cs) : ∃ ds : List (List Value), ds.length = cs.length ∧ (∀ i (hi : i < cs.length) (hj : i < ds.length), ds[i].length = z ∧ ∀ j, j < z → FrmV (cs[i].getD j (.bool false)) (ds[i].getD j (.bool false))) ∧ SeesR w' v z ds := by
  obtain ⟨ao, cap, rfl, h1, h2, h0, h3⟩ := h
  rcases h3 with rfl | ⟨b, off, rfl, h3⟩
  · exact ⟨[], rfl, fun i hi => by simp at hi, ao, cap, rfl, h1, h2, h0, .inl rfl⟩
  have step : ∀ p : Nat × Nat, ∃ y : Value, ∀ (hi : p.1 < cs.length), p.2 < z → w'.cell? ⟨b, off + p.1 * z + p.2, none⟩ = some y ∧ FrmV (cs[p.1].getD p.2 (.bool false)) y := fun p => by
    by_cases hi : p.1 < cs.length ∧ p.2 < z
    · obtain ⟨u', a1, a2⟩ := ht.cell _ _ _ (h3 p.1 hi.1 p.2 hi.2)
      exact ⟨u', fun _ _ => ⟨a1, a2⟩⟩
    · exact ⟨.bool false, fun a b => absurd ⟨a, b⟩ hi⟩
  obtain ⟨f, hf⟩ := Classical.axiomOfChoice step
  have hat : ∀ i j, i < cs.length → j < z → (((List.range cs.length).map fun i => (List.range z).map fun j => f (i, j))[i]?.getD []).getD j (.bool false) = f (i, j) := fun i j hi hj => by
    simp [List.getD_eq_getElem?_getD, hi, hj]
  refine ⟨(List.range cs.length).map fun i => (List.range z).map fun j => f (i, j), by simp, fun i hi hj => ⟨by simp, fun j hz => ?_⟩, some ⟨b, off, none⟩, cap, by simp, by simpa using h1, h2, fun e => by simp at e, .inr ⟨b, off, rfl, fun i hi j hj => ?_⟩⟩
  · have e := hat i j hi hz
    rw [List.getElem?_eq_getElem hj, Option.getD_some] at e
    rw [e]
    exact (hf (i, j) hi hz).2
  · have hi' : i < cs.length := by simpa using hi
    have e := hat i j hi' hj
    rw [List.getElem?_eq_getElem hi, Option.getD_some] at e
    rw [e]
    exact (hf (i, j) hi' hj).1

theorem list2 {α : Type} {l : List α} (h : l.length = 2) : ∃ a b, l = [a, b] := by
  match l, h with
  | [a, b], _ => exact ⟨a, b, rfl⟩
theorem list3 {α : Type} {l : List α} (h : l.length = 3) : ∃ a b c, l = [a, b, c] := by
  match l, h with
  | [a, b, c], _ => exact ⟨a, b, c, rfl⟩
theorem list11 {α : Type} {l : List α} (h : l.length = 11) : ∃ a b c d e f g i j k m, l = [a, b, c, d, e, f, g, i, j, k, m] := by
  match l, h with
  | [a, b, c, d, e, f, g, i, j, k, m], _ => exact ⟨a, b, c, d, e, f, g, i, j, k, m, rfl⟩

/-- Entries. -/
theorem acl_turns {w w' : World} (ht : Turns w w') {v : Value} {l : List EnD} (h : SeesR w v 3 (l.map EnD.cells)) (hg : ∀ x ∈ l, -128 ≤ x.perms ∧ x.perms ≤ 127 ∧ x.id.scheme.size ≤ 140737488355328 ∧ x.id.name.size ≤ 140737488355328) :
    ∃ l' : List EnD, l'.length = l.length ∧ (∀ x ∈ l', -128 ≤ x.perms ∧ x.perms ≤ 127 ∧ x.id.scheme.size ≤ 140737488355328 ∧ x.id.name.size ≤ 140737488355328) ∧ SeesR w' v 3 (l'.map EnD.cells) := by
  obtain ⟨ds, hl, he, hs⟩ := h.turns ht
  rw [List.length_map] at hl
  have step : ∀ i, ∃ x : EnD, ∀ (hi : i < ds.length), ds[i] = x.cells ∧ -128 ≤ x.perms ∧ x.perms ≤ 127 ∧ x.id.scheme.size ≤ 140737488355328 ∧ x.id.name.size ≤ 140737488355328 := fun i => by
    by_cases hi : i < ds.length
    · obtain ⟨e1, e2⟩ := he i (by rw [List.length_map]; omega) hi
      obtain ⟨a, b, c, ec⟩ := list3 e1
      rw [ec] at e2
      simp only [List.getElem_map] at e2
      obtain ⟨g0, g1, g2, g3⟩ := hg _ (List.getElem_mem (show i < l.length by omega))
      obtain ⟨x, rfl, x0, x1⟩ := frm_i8 (e2 0 (by omega)) g0 g1
      obtain ⟨s, rfl, s0⟩ := frm_str (e2 1 (by omega)) g2
      obtain ⟨t, rfl, t0⟩ := frm_str (e2 2 (by omega)) g3
      exact ⟨⟨x, ⟨s, t⟩⟩, fun _ => ⟨ec, x0, x1, s0, t0⟩⟩
    · exact ⟨⟨0, ⟨⟨#[]⟩, ⟨#[]⟩⟩⟩, fun h => absurd h hi⟩
  obtain ⟨f, hf⟩ := Classical.axiomOfChoice step
  have e : ds = ((List.range ds.length).map f).map EnD.cells := by
    apply List.ext_getElem
    · simp
    · intro i h1 h2
      simp only [List.getElem_map, List.getElem_range]
      exact (hf i h1).1
  refine ⟨(List.range ds.length).map f, by simp [hl], fun x hx => ?_, by rw [← e]; exact hs⟩
  obtain ⟨i, hi, rfl⟩ := List.mem_map.1 hx
  exact (hf i (List.mem_range.1 hi)).2

/-- Ids. -/
theorem who_turns {w w' : World} (ht : Turns w w') {v : Value} {l : List IdD} (h : SeesR w v 2 (l.map IdD.cells)) (hg : ∀ x ∈ l, x.scheme.size ≤ 140737488355328 ∧ x.name.size ≤ 140737488355328) :
    ∃ l' : List IdD, l'.length = l.length ∧ (∀ x ∈ l', x.scheme.size ≤ 140737488355328 ∧ x.name.size ≤ 140737488355328) ∧ SeesR w' v 2 (l'.map IdD.cells) := by
  obtain ⟨ds, hl, he, hs⟩ := h.turns ht
  rw [List.length_map] at hl
  have step : ∀ i, ∃ x : IdD, ∀ (hi : i < ds.length), ds[i] = x.cells ∧ x.scheme.size ≤ 140737488355328 ∧ x.name.size ≤ 140737488355328 := fun i => by
    by_cases hi : i < ds.length
    · obtain ⟨e1, e2⟩ := he i (by rw [List.length_map]; omega) hi
      obtain ⟨a, b, ec⟩ := list2 e1
      rw [ec] at e2
      simp only [List.getElem_map] at e2
      obtain ⟨g2, g3⟩ := hg _ (List.getElem_mem (show i < l.length by omega))
      obtain ⟨s, rfl, s0⟩ := frm_str (e2 0 (by omega)) g2
      obtain ⟨t, rfl, t0⟩ := frm_str (e2 1 (by omega)) g3
      exact ⟨⟨s, t⟩, fun _ => ⟨ec, s0, t0⟩⟩
    · exact ⟨⟨⟨#[]⟩, ⟨#[]⟩⟩, fun h => absurd h hi⟩
  obtain ⟨f, hf⟩ := Classical.axiomOfChoice step
  have e : ds = ((List.range ds.length).map f).map IdD.cells := by
    apply List.ext_getElem
    · simp
    · intro i h1 h2
      simp only [List.getElem_map, List.getElem_range]
      exact (hf i h1).1
  refine ⟨(List.range ds.length).map f, by simp [hl], fun x hx => ?_, by rw [← e]; exact hs⟩
  obtain ⟨i, hi, rfl⟩ := List.mem_map.1 hx
  exact (hf i (List.mem_range.1 hi)).2

/-- A request in memory is then another one, of as many parts. -/
theorem RqIn.turns {w w' : World} (ht : Turns w w') {F : Nat → Prop} {cs : List Value} {r : Rq} (h : RqIn w F cs r) : r.good → ∀ cs' : List Value, cs'.length = 11 → (∀ j, j < 11 → FrmV (cs.getD j (.bool false)) (cs'.getD j (.bool false))) → ∃ r' : Rq, RqIn w' F cs' r' ∧ r'.good ∧ r'.parts = r.parts := by
  induction h with
  | mk f n ops dv av wv ov oc hd ha hw ho fd fa fw fo _ ih =>
    intro hg cs' hl hc
    obtain ⟨hgf, hn, hgo⟩ := hg
    obtain ⟨c0, c1, c2, c3, c4, c5, c6, c7, c8, c9, c10, rfl⟩ := list11 hl
    have hc' := hc
    clear hl hc
    obtain ⟨data', hdl, hdb, hd'⟩ := hd.turns ht hgf.byts
    obtain ⟨acl', hal, hab, ha'⟩ := acl_turns ht ha hgf.ae
    obtain ⟨who', hwl, hwb, hw'⟩ := who_turns ht hw hgf.we
    obtain ⟨ds, hol, hoe, ho'⟩ := ho.turns ht
    rw [List.length_ofFn] at hol
    have hcl : ∀ i : Fin n, ∃ ri : Rq, RqIn w' F (ds[i.1]'(by omega)) ri ∧ ri.good ∧ ri.parts = (ops i).parts := fun i => by
      obtain ⟨e1, e2⟩ := hoe i.1 (by rw [List.length_ofFn]; exact i.2) (by omega)
      refine ih i (hgo i) _ e1 (fun j hj => ?_)
      have := e2 j hj
      simpa using this
    obtain ⟨opsf, hops⟩ := Classical.axiomOfChoice hcl
    obtain ⟨k', rfl, k0, k1⟩ := frm_i8 (hc' 0 (by omega)) hgf.k0 hgf.k1
    obtain ⟨p', rfl, p0⟩ := frm_str (hc' 1 (by omega)) hgf.pl
    have e2 : c2 = dv := by
      obtain ⟨a, c, rfl, _⟩ := hd
      exact frm_slice (hc' 2 (by omega))
    have e3 : c3 = av := by
      obtain ⟨a, c, rfl, _⟩ := ha
      exact frm_slice (hc' 3 (by omega))
    have e4 : c4 = .int .i32 f.ver := frm_i32 (hc' 4 (by omega))
    have e5 : c5 = .bool f.eph := frm_bool (hc' 5 (by omega))
    have e6 : c6 = .bool f.seq := frm_bool (hc' 6 (by omega))
    have e7 : c7 = .int .i64 f.ses := frm_i64 (hc' 7 (by omega))
    have e8 : c8 = .int .i32 f.tmo := frm_i32 (hc' 8 (by omega))
    have e9 : c9 = wv := by
      obtain ⟨a, c, rfl, _⟩ := hw
      exact frm_slice (hc' 9 (by omega))
    have e10 : c10 = ov := by
      obtain ⟨a, c, rfl, _⟩ := ho
      exact frm_slice (hc' 10 (by omega))
    subst e2 e3 e4 e5 e6 e7 e8 e9 e10
    have hds : ds = List.ofFn fun i : Fin n => ds[i.1]'(by omega) := by
      apply List.ext_getElem
      · simp [hol]
      · intro i h1 h2; simp
    refine ⟨.mk ⟨k', p', data', acl', f.ver, f.eph, f.seq, f.ses, f.tmo, who'⟩ n opsf, ?_, ⟨⟨k0, k1, hgf.v0, hgf.v1, hgf.s0, hgf.s1, hgf.t0, hgf.t1, hdb, p0, by rw [hdl]; exact hgf.dl, by rw [hal]; exact hgf.al, by rw [hwl]; exact hgf.wl, hab, hwb⟩, hn, fun i => (hops i).2.1⟩, ?_⟩
    · rw [hds] at ho'
      exact .mk ⟨k', p', data', acl', f.ver, f.eph, f.seq, f.ses, f.tmo, who'⟩ n opsf _ _ _ _ (fun i : Fin n => ds[i.1]'(by omega)) hd' ha' hw' ho' fd fa fw fo (fun i => (hops i).1)
    · have e : (List.ofFn fun i : Fin n => (opsf i).parts) = List.ofFn fun i : Fin n => (ops i).parts := congrArg List.ofFn (funext fun i => (hops i).2.2)
      show RqF.parts _ + _ = RqF.parts _ + _
      rw [e]
      simp only [RqF.parts, hdl, hal, hwl]
end Go.Proofs.YtobnggkgpenmfaaGreatDoor
