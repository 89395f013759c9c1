/- The statements' lists of bytes and of pieces where there is none: they are apart. -/
import Derived.Test.YtgoiefhhbgollaaGreatDoorProg
import Derived.Test.YtgoiefhhbgollaaGreatDoorTurnJ
import Derived.Test.YtgoiefhhbgollaaGreatDoorApartNilJ
import Derived.WalkKit
namespace Go.Proofs.YtgoiefhhbgollaaGreatDoor
open Go.RowKit
set_option maxRecDepth 8000

theorem grownBytes_nil (d more : Int) (w : World) : Calls Tryz.prog 65 #[.slice none 0 0, .int .i64 d, .int .i64 more] w fun e w' => e = .returned (.bool true) ∧ w' = w := by
  go_enter Tryz.func65, Tryz.ntmps65
  go_wp2
  go_loopw [8] (fun i wr => i = .int .i64 0 ∧ wr = w) (fun _ _ => 0)
  case atStart => exact ⟨rfl, rfl⟩
  case round =>
    obtain ⟨rfl, rfl⟩ := hrel
    go_wp2
    go_loopw [11] (fun i wx => i = .int .i64 0 ∧ wx = wr) (fun _ _ => 0)
    case atStart => exact ⟨rfl, rfl⟩
    case round =>
      obtain ⟨rfl, rfl⟩ := hrel
      go_wp2
      go_ret
      exact ⟨rfl, rfl⟩

theorem grownPieces_nil (more : Int) (w : World) : Calls Tryz.prog 68 #[.slice none 0 0, .int .i64 more] w fun e w' => e = .returned (.bool true) ∧ w' = w := by
  go_enter Tryz.func68, Tryz.ntmps68
  go_wp2
  go_loopw [6] (fun i wr => i = .int .i64 0 ∧ wr = w) (fun _ _ => 0)
  case atStart => exact ⟨rfl, rfl⟩
  case round =>
    obtain ⟨rfl, rfl⟩ := hrel
    go_wp2
    go_loopw [9] (fun i wx => i = .int .i64 0 ∧ wx = wr) (fun _ _ => 0)
    case atStart => exact ⟨rfl, rfl⟩
    case round =>
      obtain ⟨rfl, rfl⟩ := hrel
      go_wp2
      go_ret
      exact ⟨rfl, rfl⟩

theorem apartPieces_nil (w : World) : Calls Tryz.prog 32 #[.slice none 0 0] w fun e w' => e = .returned (.bool true) ∧ w' = w := by
  go_enter Tryz.func32, Tryz.ntmps32
  go_wp2
  go_loopw [3] (fun i wr => i = .int .i64 0 ∧ wr = w) (fun _ _ => 0)
  case atStart => exact ⟨rfl, rfl⟩
  case round =>
    obtain ⟨rfl, rfl⟩ := hrel
    go_wp2_with fail
    refine (grownPieces_nil 1 _).mono ?_
    rintro e w1 ⟨rfl, rfl⟩
    go_wp2_with fail
    refine (grownPieces_nil 24 _).mono ?_
    rintro e w1 ⟨rfl, rfl⟩
    go_wp2
    go_ret
    exact ⟨rfl, rfl⟩

theorem apartBytes_nil (w : World) : Calls Tryz.prog 29 #[.slice none 0 0] w fun e w' => e = .returned (.bool true) ∧ w' = w := by
  go_enter Tryz.func29, Tryz.ntmps29
  go_wp2
  go_loopw [3] (fun dv wr => (dv = .int .i64 1 ∨ dv = .int .i64 100) ∧ wr = w) (fun dv _ => 200 - (intOf dv).toNat)
  case atStart => exact ⟨.inl rfl, rfl⟩
  case round =>
    obtain ⟨rfl | rfl, rfl⟩ := hrel
    · go_wp2
      go_loopw [4] (fun i wx => i = .int .i64 0 ∧ wx = wr) (fun _ _ => 0)
      case atStart => exact ⟨rfl, rfl⟩
      case round =>
        obtain ⟨rfl, rfl⟩ := hrel
        go_wp2_with fail
        refine (grownBytes_nil 1 1 _).mono ?_
        rintro e w1 ⟨rfl, rfl⟩
        go_wp2_with fail
        refine (grownBytes_nil 1 64 _).mono ?_
        rintro e w1 ⟨rfl, rfl⟩
        go_wp2
        go_roundw
        case rel => exact ⟨.inr (by go_num), trivial⟩
        case measure => simp [intOf]
    · go_wp2
      go_ret
      exact ⟨rfl, rfl⟩

end Go.Proofs.YtgoiefhhbgollaaGreatDoor

/- The statements' Bag with lists of ids and of entries, which lie apart: Apart says so. -/
namespace Go.Proofs.YtgoiefhhbgollaaGreatDoor
open Go.RowKit Go.Shelf
set_option maxRecDepth 8000

theorem seesL_own {w : World} {B : Nat} {T1 : TypeId} {lv : Value} {rs : List Rw} (h : w.ownsRow B T1 1 lv (rs.map Rw.v).length (rs.map Rw.v)) : SeesL w T1 lv rs := by
  obtain ⟨hl, ⟨rfl, h0⟩ | ⟨g, cap, cur, rfl, a2, a3, a4, a5, a6, a7⟩⟩ := h
  · have e : rs = [] := by
      rw [List.length_map] at h0
      exact List.length_eq_zero_iff.mp h0
    subst e
    exact ⟨none, 0, rfl, Nat.le_refl _, fun h => absurd rfl h⟩
  · rw [List.length_map] at a4 a7 ⊢
    refine ⟨some ⟨g, 0, none⟩, cap, rfl, a4, fun _ => ⟨g, 0, rfl, ⟨cur, (0, 0), a3⟩, fun j hj => ?_⟩⟩
    rw [cell_of_row w g _ _ _ _ a3, Nat.zero_add, ← Array.getElem?_toList]
    have e : (cur.toList.take (rs.length * 1))[j]? = some rs[j].v := by rw [a7]; simp [hj]
    rw [List.getElem?_take] at e
    split at e
    · exact e
    · cases e

theorem bagIA_cells {w : World} {g : Nat} {iv av : Value} (h : w.heap[g]? = some (.cells (bagIA iv av) 63 (0, 0))) : ∀ j, j < 21 → w.cell? ⟨g, j, none⟩ = (bagIA iv av)[j]? := fun j _ => cell_of_row w g j _ _ _ h

theorem blkR_type {w : World} {T : TypeId} {z : Nat} {rs : List Rw} {Xs : Nat → List Value} (h : RowsR w T z rs Xs) {k : Nat} (hk : BlkR rs k) : ∃ cs, w.heap[k]? = some (.cells cs T (0, 0)) := by
  obtain ⟨j, hj, e⟩ := hk
  exact row_type (h j hj) e

theorem blkR_not {w : World} {T E : TypeId} {z : Nat} {rs : List Rw} {Xs : Nat → List Value} (h : RowsR w T z rs Xs) {k : Nat} {cs : Array Value} {fr : Nat × Nat} (hr : w.heap[k]? = some (.cells cs E fr)) (hTE : E ≠ T) : ¬ BlkR rs k := fun hk => by
  obtain ⟨cs', e⟩ := blkR_type h hk
  rw [hr] at e
  simp at e
  exact hTE e.2.1

set_option maxHeartbeats 2000000 in
theorem bagApart_ia (g B : Nat) (iv av : Value) (ps qs : List Rw) (Xp Xq : Nat → List Value) (w : World) (h : BagIA w g iv av (ps.map Rw.v) (qs.map Rw.v) B) (hrp : RowsR w 37 2 ps Xp) (hrq : RowsR w 39 3 qs Xq) (hap : ApartR ps) (haq : ApartR qs)
    (hnp : ps.length ≤ 600) (hnq : qs.length ≤ 600) (hbp : ∀ j (hj : j < ps.length), ps[j].n ≤ 1100000000) (hbq : ∀ j (hj : j < qs.length), qs[j].n ≤ 1100000000)
    (ht : Tab w) (hg0 : 0 < w.heap.size) (hgp : ¬ BlkR ps 0) (hgq : ¬ BlkR qs 0) :
    Calls Tryz.prog 17 #[.pointer (some ⟨g, 0, none⟩)] w fun e w' => e = .returned (.bool true) ∧ Kept w w' (fun k => BlkR ps k ∨ BlkR qs k) := by
  have cs := bagIA_cells h.row
  have H1 : Hid (SeesL w 23 iv ps) := seesL_own h.ids
  have H2 : Hid (∀ w1, Kept w w1 (BlkR ps) → w1.heap[g]? = some (.cells (bagIA iv av) 63 (0, 0)) ∧ SeesL w1 22 av qs ∧ RowsR w1 39 3 qs Xq ∧ Tab w1 ∧ 0 < w1.heap.size) := fun w1 hk => by
    refine ⟨hk.heap h.row (blkR_not hrp h.row (by decide)), seesL_own (row_kept h.acl hk (fun k e hb => ?_)), fun j hj => row_kept (hrq j hj) hk (fun k e hb => ?_), tab_same ht (hk.block _ hg0 hgp), Nat.lt_of_lt_of_le hg0 hk.size⟩
    · obtain ⟨cs', e'⟩ := row_type h.acl e
      exact blkR_not hrp e' (by decide) hb
    · obtain ⟨cs', e'⟩ := row_type (hrq j hj) e
      exact blkR_not hrp e' (by decide) hb
  have H3 : Hid (RowsR w 37 2 ps Xp ∧ ApartR ps ∧ ApartR qs ∧ (∀ j (hj : j < ps.length), ps[j].n ≤ 1100000000) ∧ (∀ j (hj : j < qs.length), qs[j].n ≤ 1100000000) ∧ ¬ BlkR ps 0 ∧ ¬ BlkR qs 0 ∧ Tab w) := ⟨hrp, hap, haq, hbp, hbq, hgp, hgq, ht⟩
  have c0 : w.cell? ⟨g, 0, none⟩ = some nilB := cs 0 (by omega)
  have c1 : w.cell? ⟨g, 1, none⟩ = some nilB := cs 1 (by omega)
  have c2 : w.cell? ⟨g, 2, none⟩ = some nilB := cs 2 (by omega)
  have c3 : w.cell? ⟨g, 3, none⟩ = some nilB := cs 3 (by omega)
  have c4 : w.cell? ⟨g, 4, none⟩ = some iv := cs 4 (by omega)
  clear h cs hrp hrq hap haq hbp hbq hgp hgq ht
  go_enter Tryz.func17, Tryz.ntmps17
  go_wp2_with fail
  refine (apartBytes_nil _).mono ?_
  rintro e w0 ⟨rfl, rfl⟩
  go_wp2_with fail
  refine (apartInts_nil _).mono ?_
  rintro e w0 ⟨rfl, rfl⟩
  go_wp2_with fail
  refine (apartTexts_nil _).mono ?_
  rintro e w0 ⟨rfl, rfl⟩
  go_wp2_with fail
  refine (apartPieces_nil _).mono ?_
  rintro e w0 ⟨rfl, rfl⟩
  go_wp2_with fail
  refine (apartIds_any iv ps Xp _ H1.out H3.out.1 H3.out.2.1 hnp H3.out.2.2.2.1 H3.out.2.2.2.2.2.2.2 hg0 H3.out.2.2.2.2.2.1).mono ?_
  rintro e w1 ⟨rfl, hk1⟩
  obtain ⟨hrow1, hs1, hr1, ht1, hz1⟩ := H2.out w1 hk1
  have H4 : Hid (SeesL w1 22 av qs ∧ RowsR w1 39 3 qs Xq ∧ Tab w1) := ⟨hs1, hr1, ht1⟩
  have HK1 : Hid (Kept w1 w1 (fun _ => False) ∧ w1.heap[g]? = some (.cells (bagIA iv av) 63 (0, 0))) := ⟨Kept.refl _ _, hrow1⟩
  have HK : Hid (∀ w2, Kept w1 w2 (BlkR qs) → Kept w0 w2 (fun k => BlkR ps k ∨ BlkR qs k)) := fun w2 hk2 => (hk1.mono (fun _ _ h => .inl h)).trans hk2 (fun _ _ h => .inr h)
  have c5 := bagIA_c5 hrow1
  clear hrow1 hs1 hr1 ht1 hk1 c0 c1 c2 c3 c4
  go_wp2_with fail
  refine (apartAcl_any av qs Xq _ H4.out.1 H4.out.2.1 H3.out.2.2.1 hnq H3.out.2.2.2.2.1 H4.out.2.2 hz1 H3.out.2.2.2.2.2.2.1).mono ?_
  rintro e w2 ⟨rfl, hk2⟩
  have HE : Hid (Kept _ w2 (fun k => BlkR ps k ∨ BlkR qs k)) := HK.out w2 hk2
  have cs := bagIA_cells (hk2.heap HK1.out.2 (blkR_not H4.out.2.1 HK1.out.2 (by decide)))
  have c6 : w2.cell? ⟨g, 6, none⟩ = some nilB := cs 6 (by omega)
  have c7 : w2.cell? ⟨g, 7, none⟩ = some nilB := cs 7 (by omega)
  have c8 : w2.cell? ⟨g, 8, none⟩ = some nilB := cs 8 (by omega)
  have c9 : w2.cell? ⟨g, 9, none⟩ = some nilB := cs 9 (by omega)
  have c10 : w2.cell? ⟨g, 10, none⟩ = some nilB := cs 10 (by omega)
  have c11 : w2.cell? ⟨g, 11, none⟩ = some nilB := cs 11 (by omega)
  have c12 : w2.cell? ⟨g, 12, none⟩ = some nilB := cs 12 (by omega)
  have c13 : w2.cell? ⟨g, 13, none⟩ = some nilB := cs 13 (by omega)
  have c14 : w2.cell? ⟨g, 14, none⟩ = some nilB := cs 14 (by omega)
  have c15 : w2.cell? ⟨g, 15, none⟩ = some nilB := cs 15 (by omega)
  have c16 : w2.cell? ⟨g, 16, none⟩ = some nilB := cs 16 (by omega)
  have c17 : w2.cell? ⟨g, 17, none⟩ = some nilB := cs 17 (by omega)
  have c18 : w2.cell? ⟨g, 18, none⟩ = some nilB := cs 18 (by omega)
  have c19 : w2.cell? ⟨g, 19, none⟩ = some nilB := cs 19 (by omega)
  have c20 : w2.cell? ⟨g, 20, none⟩ = some nilB := cs 20 (by omega)
  clear cs hk2 c5
  go_wp2_with fail
  refine (apartRequests_nil _).mono ?_
  rintro e w3 ⟨rfl, rfl⟩
  go_wp2_with fail
  refine (apartTxns_nil _).mono ?_
  rintro e w3 ⟨rfl, rfl⟩
  go_wp2_with fail
  refine (apartResults_nil _).mono ?_
  rintro e w3 ⟨rfl, rfl⟩
  go_wp2_with fail
  refine (apartNodes_nil _).mono ?_
  rintro e w3 ⟨rfl, rfl⟩
  go_wp2_with fail
  refine (apartSessions_nil _).mono ?_
  rintro e w3 ⟨rfl, rfl⟩
  go_wp2_with fail
  refine (apartChanges_nil _).mono ?_
  rintro e w3 ⟨rfl, rfl⟩
  go_wp2_with fail
  refine (apartFiles_nil _).mono ?_
  rintro e w3 ⟨rfl, rfl⟩
  go_wp2_with fail
  refine (apartPackets_nil _).mono ?_
  rintro e w3 ⟨rfl, rfl⟩
  go_wp2_with fail
  refine (apartMessages_nil _).mono ?_
  rintro e w3 ⟨rfl, rfl⟩
  go_wp2_with fail
  refine (apartWatches_nil _).mono ?_
  rintro e w3 ⟨rfl, rfl⟩
  go_wp2_with fail
  refine (apartFired_nil _).mono ?_
  rintro e w3 ⟨rfl, rfl⟩
  go_wp2_with fail
  refine (apartFacts_nil _).mono ?_
  rintro e w3 ⟨rfl, rfl⟩
  go_wp2_with fail
  refine (apartSends_nil _).mono ?_
  rintro e w3 ⟨rfl, rfl⟩
  go_wp2_with fail
  refine (apartEvents_nil _).mono ?_
  rintro e w3 ⟨rfl, rfl⟩
  go_wp2_with fail
  refine (apartFactss_nil _).mono ?_
  rintro e w3 ⟨rfl, rfl⟩
  go_wp2
  go_ret
  exact ⟨rfl, HE.out⟩

end Go.Proofs.YtgoiefhhbgollaaGreatDoor

/- Plain facts on the bytes of paths: what a text's first code point is, the place of the first one that may not stand, and how both fall apart at a slash. No Go function is walked here. -/
namespace Go.Proofs.YtgoiefhhbgollaaGreatDoor
open Go.RowKit
set_option maxRecDepth 8000

abbrev Bs := List UInt8

/-- The first code point of a text and its width, as a range over the text tells it. -/
def dec (l : Bs) : Nat × Nat :=
  let at' (k : Nat) : Nat := (l.getD k 0).toNat
  let cont (k : Nat) : Bool := k < l.length && at' k / 64 == 2
  let b0 := at' 0
  if b0 < 0x80 then (b0, 1)
  else if b0 / 32 == 6 && cont 1 then
    let c := (b0 % 32) * 64 + at' 1 % 64
    if c ≥ 0x80 then (c, 2) else (0xFFFD, 1)
  else if b0 / 16 == 14 && cont 1 && cont 2 then
    let c := (b0 % 16) * 4096 + (at' 1 % 64) * 64 + at' 2 % 64
    if c ≥ 0x800 && Utf8.valid c then (c, 3) else (0xFFFD, 1)
  else if b0 / 8 == 30 && cont 1 && cont 2 && cont 3 then
    let c := (b0 % 8) * 262144 + (at' 1 % 64) * 4096 + (at' 2 % 64) * 64 + at' 3 % 64
    if c ≥ 0x10000 && Utf8.valid c then (c, 4) else (0xFFFD, 1)
  else (0xFFFD, 1)

theorem get_drop (s : ByteArray) (i k : Nat) : s.get! (i + k) = (s.data.toList.drop i).getD k 0 := by
  cases s with
  | mk d =>
    show d[i + k]! = _
    rw [List.getD_eq_getElem?_getD, List.getElem?_drop, Array.getElem?_toList, getElem!_def]
    cases d[i + k]? <;> rfl

theorem size_list (s : ByteArray) : s.size = s.data.toList.length := by rw [Array.length_toList]; rfl

theorem decode_dec (s : ByteArray) (i : Nat) : Utf8.decode s i = dec (s.data.toList.drop i) := by
  have h : ∀ k, decide (i + k < s.size) = decide (k < (s.data.toList.drop i).length) := fun k => by
    simp only [decide_eq_decide, List.length_drop, size_list]; omega
  simp only [Utf8.decode, dec, get_drop, h, Utf8.runeError]

theorem dec_width (l : Bs) (hl : l ≠ []) : 1 ≤ (dec l).2 ∧ (dec l).2 ≤ l.length := by
  have h0 : 0 < l.length := List.length_pos_iff.2 hl
  unfold dec
  simp only
  split
  · exact ⟨Nat.le_refl _, h0⟩
  · split
    · rename_i h; simp only [Bool.and_eq_true, decide_eq_true_eq] at h
      split <;> simp only <;> omega
    · split
      · rename_i h; simp only [Bool.and_eq_true, decide_eq_true_eq] at h
        split <;> simp only <;> omega
      · split
        · rename_i h; simp only [Bool.and_eq_true, decide_eq_true_eq] at h
          split <;> simp only <;> omega
        · simp only; omega

theorem dec_ascii (b : UInt8) (c : Bs) (h : b.toNat < 128) : dec (b :: c) = (b.toNat, 1) := by
  simp [dec, h]

theorem getD_app (a c : Bs) (k : Nat) (h : k < a.length) : (a ++ c).getD k 0 = a.getD k 0 := by
  simp [List.getD_eq_getElem?_getD, List.getElem?_append_left h]

theorem getD_mid (a c : Bs) (b : UInt8) : (a ++ b :: c).getD a.length 0 = b := by
  simp [List.getD_eq_getElem?_getD]

theorem dec_app (a c : Bs) (b : UInt8) (ha : a ≠ []) (h : b.toNat < 128) : dec (a ++ b :: c) = dec a := by
  have h0 : 0 < a.length := List.length_pos_iff.2 ha
  have e0 := getD_app a (b :: c) 0 h0
  have hn : (b.toNat / 64 == 2) = false := by
    have : ¬ b.toNat / 64 = 2 := by omega
    simpa using this
  unfold dec
  simp only [List.length_append, List.length_cons, e0]
  by_cases h1 : a.length = 1
  · have e1 := getD_mid a c b
    rw [h1] at e1
    simp only [e1, hn, h1]
    simp
  · have g1 : 1 < a.length := by omega
    have e1 := getD_app a (b :: c) 1 g1
    have d1 : 1 < a.length + (c.length + 1) := by omega
    by_cases h2 : a.length = 2
    · have e2 := getD_mid a c b
      rw [h2] at e2
      simp only [e1, e2, hn, h2]
      simp
      have : 1 < 2 + (c.length + 1) := by omega
      simp [this]
    · have g2 : 2 < a.length := by omega
      have e2 := getD_app a (b :: c) 2 g2
      have d2 : 2 < a.length + (c.length + 1) := by omega
      by_cases h3 : a.length = 3
      · have e3 := getD_mid a c b
        rw [h3] at e3
        simp only [e1, e2, e3, hn, h3]
        have q1 : 1 < 3 + (c.length + 1) := by omega
        have q2 : 2 < 3 + (c.length + 1) := by omega
        simp [q1, q2]
      · have g3 : 3 < a.length := by omega
        have e3 := getD_app a (b :: c) 3 g3
        have d3 : 3 < a.length + (c.length + 1) := by omega
        simp only [e1, e2, e3, g1, g2, g3, d1, d2, d3]

/-- May this code point stand in a path? -/
def stand (r : Nat) : Bool := 0x1F < r && (r < 0x7F || 0x9F < r) && (r < 0xE000 || 0xF8FF < r) && (r < 0xFFF0 || 0xFFFF < r)

/-- The place of the first code point that may not stand. -/
def rf (l : Bs) : Option Nat :=
  if _h : l = [] then none
  else if stand (dec l).1 then (rf (l.drop (dec l).2)).map (· + (dec l).2) else some 0
termination_by l.length
decreasing_by
  have := dec_width l ‹_›
  rw [List.length_drop]
  omega

theorem rf_nil : rf [] = none := by rw [rf]; simp
theorem rf_cons {l : Bs} (h : l ≠ []) : rf l = if stand (dec l).1 then (rf (l.drop (dec l).2)).map (· + (dec l).2) else some 0 := by
  rw [rf]; simp [h]

theorem rf_ascii (b : UInt8) (c : Bs) (h : b.toNat < 128) (hs : stand b.toNat = true) : rf (b :: c) = (rf c).map (· + 1) := by
  rw [rf_cons (by simp), dec_ascii b c h]
  simp [hs]

theorem rf_app (n : Nat) : ∀ (a c : Bs) (b : UInt8), a.length ≤ n → b.toNat < 128 → stand b.toNat = true →
    rf (a ++ b :: c) = match rf a with | some k => some k | none => (rf c).map (· + (a.length + 1)) := by
  induction n with
  | zero =>
    intro a c b ha hb hs
    have : a = [] := List.eq_nil_of_length_eq_zero (by omega)
    subst this
    rw [rf_nil, List.nil_append, rf_ascii b c hb hs]
    rfl
  | succ n ih =>
    intro a c b ha hb hs
    by_cases h0 : a = []
    · subst h0
      rw [rf_nil, List.nil_append, rf_ascii b c hb hs]
      rfl
    · have hw := dec_width a h0
      rw [rf_cons (l := a ++ b :: c) (by simp), rf_cons h0, dec_app a c b h0 hb]
      split
      · rw [List.drop_append_of_le_length hw.2, ih _ c b (by rw [List.length_drop]; omega) hb hs]
        cases hr : rf (a.drop (dec a).2) with
        | some k => rfl
        | none =>
          simp only [Option.map_none, Option.map_map]
          congr 1
          funext x
          simp only [Function.comp, List.length_drop]
          omega
      · rfl

theorem rf_lt (n : Nat) : ∀ (l : Bs) (k : Nat), l.length ≤ n → rf l = some k → k < l.length := by
  induction n with
  | zero =>
    intro l k hl h
    have : l = [] := List.eq_nil_of_length_eq_zero (by omega)
    subst this
    rw [rf_nil] at h; simp at h
  | succ n ih =>
    intro l k hl h
    by_cases h0 : l = []
    · subst h0; rw [rf_nil] at h; simp at h
    · have hw := dec_width l h0
      rw [rf_cons h0] at h
      split at h
      · cases hr : rf (l.drop (dec l).2) with
        | none => rw [hr] at h; simp at h
        | some j =>
          rw [hr] at h
          simp at h
          have := ih _ j (by rw [List.length_drop]; omega) hr
          rw [List.length_drop] at this
          omega
      · simp at h; omega

end Go.Proofs.YtgoiefhhbgollaaGreatDoor
