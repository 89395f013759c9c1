/- A disk's Start: the power given back. -/
import Derived.Test.YtdhnbgeijfgfaaaGreatDoorDkKJ
namespace Go.Proofs.YtdhnbgeijfgfaaaGreatDoor
open Go.RowKit Go.Shelf
set_option maxRecDepth 8000

/-- A list of ints in memory. -/
def SeesN (w : World) (v : Value) (ks : List Int) : Prop :=
  ∃ ao cap, v = .slice ao ks.length cap ∧ ks.length ≤ cap ∧ cap ≤ maxLen ∧ (ks = [] ∨ ∃ b off, ao = some ⟨b, off, none⟩ ∧ ∀ i, i < ks.length → w.cell? ⟨b, off + i, none⟩ = some (.int .i64 (ks.getD i 0)))

theorem SeesN.kept {w w' : World} {S : Nat → Prop} {v : Value} {ks : List Int} (h : SeesN w v ks) (hk : Kept w w' S) (hn : ks ≠ [] → ∀ k, v.ownBlock = some k → ¬ S k) : SeesN w' v ks := by
  obtain ⟨ao, cap, rfl, g1, g2, g3⟩ := h
  refine ⟨ao, cap, rfl, g1, g2, ?_⟩
  rcases g3 with g3 | ⟨b, off, rfl, g3⟩
  · exact .inl g3
  · refine .inr ⟨b, off, rfl, fun i hi => ?_⟩
    have hc := g3 i hi
    rw [World.cell?_of_block (hk.block b (World.block_lt_of_cell? w ⟨b, off + i, none⟩ hc) (hn (fun e => by rw [e] at hi; simp at hi) b rfl))]
    exact hc

def lossAt (f : FiD) (k : Int) : FiD := ⟨f.name, f.bytes.take (leftN f k), leftN f k⟩
def lossK (fs : List FiD) (ks : List Int) (k : Nat) : List FiD := fs.mapIdx fun i f => if i < k then lossAt f (ks.getD i 0) else f
def lossF (fs : List FiD) (ks : List Int) : List FiD := fs.mapIdx fun i f => lossAt f (ks.getD i 0)

theorem lossK_len (fs : List FiD) (ks : List Int) (k : Nat) : (lossK fs ks k).length = fs.length := by simp [lossK]
theorem lossK_zero (fs : List FiD) (ks : List Int) : lossK fs ks 0 = fs := by
  apply List.ext_getElem?
  intro j
  simp [lossK, List.getElem?_mapIdx]
theorem lossK_all (fs : List FiD) (ks : List Int) : lossK fs ks fs.length = lossF fs ks := by
  apply List.ext_getElem?
  intro j
  simp only [lossK, lossF, List.getElem?_mapIdx]
  by_cases hj : j < fs.length
  · rw [List.getElem?_eq_getElem hj]
    simp [hj]
  · rw [List.getElem?_eq_none (by omega)]
    rfl
theorem lossK_at (fs : List FiD) (ks : List Int) (k : Nat) (hk : k < fs.length) : (lossK fs ks k)[k]? = some fs[k] := by
  simp [lossK, List.getElem?_mapIdx, List.getElem?_eq_getElem hk]
theorem lossK_next (fs : List FiD) (ks : List Int) (k : Nat) (hk : k < fs.length) : (lossK fs ks k).set k (lossAt fs[k] (ks.getD k 0)) = lossK fs ks (k + 1) := by
  apply List.ext_getElem?
  intro j
  rw [List.getElem?_set, lossK_len]
  by_cases hj : k = j
  · subst hj
    rw [if_pos rfl, if_pos hk]
    simp [lossK, List.getElem?_mapIdx, List.getElem?_eq_getElem hk]
  · rw [if_neg hj]
    simp only [lossK, List.getElem?_mapIdx]
    by_cases hl : j < k
    · simp [hl, show j < k + 1 by omega]
    · simp [hl, show ¬ j < k + 1 by omega]

def DkD.start (D : DkD) (ks : List Int) : DkD := if D.on then D else { D with on := true, files := lossF D.files ks }

set_option maxHeartbeats 2000000 in
theorem start_any {w : World} {p : Nat} {fv : Value} {ms : List FiM} {D : DkD} (h : IsDk w p fv ms D) (ok : DkOk D) (v : Value) (ks : List Int) (hv : SeesN w v ks) (hap : ks ≠ [] → ∀ k, v.ownBlock = some k → k ∉ foot p fv ms) :
    Calls Tryz.prog 33 #[.pointer (some ⟨p, 0, none⟩), v] w fun e w' => e = .returned (.tuple #[]) ∧ ∃ ms', DkTo w p fv ms w' (D.start ks) fv ms' := by
  obtain ⟨c0, c1, c2, c3, c4, c5⟩ := h.cells
  have hl := lt_of_block h.row
  obtain ⟨ka, kc, rfl, hkc, hkm, _⟩ := id hv
  unfold maxLen at hkm
  have HH : Hid (IsDk w p fv ms D ∧ DkOk D ∧ SeesN w (.slice ka ks.length kc) ks ∧ (ks ≠ [] → ∀ k, (Value.slice ka ks.length kc).ownBlock = some k → k ∉ foot p fv ms)) := ⟨h, ok, hv, hap⟩
  have f3 : w.frozen? ⟨p, 3, none⟩ = false := frozen_of_row w p 3 _ _ h.row
  obtain ⟨fa, fc, hfv, hfc, hfm⟩ := fv_shape h
  unfold maxLen at hfm
  have hlen := h.len
  have HFV : Hid _ := hfv
  rw [hfv, hlen] at c0
  rw [hlen] at hfc
  have HLN : Hid _ := hlen
  clear h ok hv hap hfv hlen
  cases hon : D.on
  · rw [hon] at c3
    have H0 : Hid (∃ ms', DkTo w p fv ms (w.setCell ⟨p, 3, none⟩ (.bool true)) { D with on := true, files := lossK D.files ks 0 } fv ms') := by
      rw [lossK_zero]
      exact ⟨ms, HH.out.1.fields (Kept.setCell (Kept.refl _ (fun k => k = p)) ⟨p, 3, none⟩ _ (fun _ => rfl)) (heap_setK _ HH.out.1.row) rfl⟩
    have HS : Hid (D.start ks = { D with on := true, files := lossF D.files ks }) := by show _ = _; unfold DkD.start; rw [hon]; rfl
    go_enter Tryz.func33, Tryz.ntmps33
    go_wp2_with fail
    go_loopw [31] (fun vi wr => ∃ k : Nat, k ≤ D.files.length ∧ vi = .int .i64 k ∧ Hid (∃ ms', DkTo w p fv ms wr { D with on := true, files := lossK D.files ks k } fv ms')) (fun vi _ => D.files.length - (intOf vi).toNat)
    case atStart => exact ⟨0, Nat.zero_le _, rfl, H0⟩
    case round =>
      obtain ⟨k, hk, rfl, HI⟩ := hrel
      clear c0 c1 c2 c3 c4 c5 f3 H0
      by_cases hlt : k < D.files.length
      · obtain ⟨ms1, ht1⟩ := HI.out
        have hl1 : ms1.length = D.files.length := by rw [ht1.is.len]; exact lossK_len _ _ _
        have hkm1 : k < ms1.length := by omega
        obtain ⟨g, cap, hfv1, hp1⟩ := ptr_at ht1.is k hkm1
        rw [HFV.out] at hfv1
        obtain ⟨rfl, _, rfl⟩ : fa = some ⟨g, 0, none⟩ ∧ ms.length = ms1.length ∧ fc = cap := by simpa using hfv1
        have hm1 : ms1[k]? = some ms1[k] := List.getElem?_eq_getElem hkm1
        have hf1 := ht1.is.file k _ _ hm1 (lossK_at D.files ks k hlt)
        have hmem : D.files[k] ∈ D.files := List.getElem_mem hlt
        have hd := HH.out.2.1.durs _ hmem
        have hsm : D.files[k].bytes.length ≤ 1000000000000 := by
          have := len_used hmem
          have := HH.out.2.1.fits
          have := HH.out.2.1.r1
          omega
        have hndm := nodup_blks ht1.is.nd (List.mem_of_getElem? hm1)
        have hvq : ∀ j, ms1[k].v.ownBlock = some j → j ≠ ms1[k].q := fun j e e' => by
          have := (List.nodup_cons.1 hndm).1
          rw [e, e'] at this
          simp at this
        have HLL : Hid (∀ keep : Int, keep = ks.getD k 0 → Calls Tryz.prog 60 #[.pointer (some ⟨ms1[k].q, 0, none⟩), .int .i64 keep] wr fun e w' => e = .returned (.tuple #[]) ∧ ∃ ms', DkTo w p (.slice (some ⟨g, 0, none⟩) ms.length fc) ms w' { D with on := true, files := lossK D.files ks (k + 1) } (.slice (some ⟨g, 0, none⟩) ms.length fc) ms') := fun keep e => by
          subst e
          refine (lose_any hf1 hvq (ks.getD k 0) hd.1 hd.2 hsm).mono ?_
          rintro e w' ⟨rfl, v', ht, _⟩
          refine ⟨rfl, ms1.set k ⟨ms1[k].q, v'⟩, ?_⟩
          have h3 := ht1.is.setFile hm1 ht
          have e2 := lossK_next D.files ks k hlt
          unfold lossAt at e2
          simp only at h3
          rw [e2] at h3
          have ht1' := ht1
          rw [HFV.out] at ht1' h3
          exact ht1'.trans h3
        have hks : SeesN wr (.slice ka ks.length kc) ks := HH.out.2.2.1.kept ht1.kept (fun hy j e => HH.out.2.2.2 hy j e)
        have hlm := lt_of_block hf1.row
        generalize ms1[k].q = mq at *
        clear ht1 hfv1 hm1 hf1 hmem hd hsm hndm hvq HI hkm1 hl1
        by_cases hkk : k < ks.length
        · have hd1 : decide ((k : Int) < (ks.length : Int)) = true := decide_eq_true (by omega)
          obtain ⟨_, _, e, _, _, h0 | ⟨b, off, e2, hc⟩⟩ := hks
          · rw [h0] at hkk; simp at hkk
          · have e3 : ka = some ⟨b, off, none⟩ := by
              have := (Value.slice.inj e).1
              rw [this]; exact e2
            have hck := hc k hkk
            subst e3
            clear hc e e2
            have HLX : Hid _ := HLL.out _ rfl
            clear HLL
            generalize ks.getD k 0 = kv at *
            go_wp2_with fail
            refine Calls.mono HLX.out ?_
            rintro e w2 ⟨rfl, hw2⟩
            have H2 : Hid _ := hw2
            clear hw2 HLX
            go_wp2_with fail
            go_roundw
            case rel => exact ⟨k + 1, by omega, by go_num, by rw [HFV.out]; exact H2.out⟩
            case measure => simp [intOf]; omega
        · have hd1 : decide ((k : Int) < (ks.length : Int)) = false := decide_eq_false (by omega)
          have HLX : Hid _ := HLL.out 0 (by rw [List.getD_eq_getElem?_getD, List.getElem?_eq_none (by omega)]; rfl)
          clear HLL hks
          go_wp2_with fail
          refine Calls.mono HLX.out ?_
          rintro e w2 ⟨rfl, hw2⟩
          have H2 : Hid _ := hw2
          clear hw2 HLX
          go_wp2_with fail
          go_roundw
          case rel => exact ⟨k + 1, by omega, by go_num, by rw [HFV.out]; exact H2.out⟩
          case measure => simp [intOf]; omega
      · obtain rfl : k = D.files.length := by omega
        go_wp2_with fail
        go_end0
        refine ⟨rfl, ?_⟩
        rw [HS.out, ← lossK_all]
        exact HI.out
  · rw [hon] at c3
    have HS : Hid (D.start ks = D) := by show _ = _; unfold DkD.start; rw [hon]; rfl
    go_enter Tryz.func33, Tryz.ntmps33
    go_wp2_with fail
    all_goals (first | go_end0 | refine bodyPost_ret (results_none rfl _ _ _) rfl ?_)
    refine ⟨rfl, ms, ?_⟩
    rw [HS.out]
    exact DkTo.refl HH.out.1
end Go.Proofs.YtdhnbgeijfgfaaaGreatDoor
