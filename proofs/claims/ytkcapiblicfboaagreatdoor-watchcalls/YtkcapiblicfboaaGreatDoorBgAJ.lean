/- What watch's isChange and the four kinds' isMetBy answer. -/
import Derived.Test.YtkcapiblicfboaaGreatDoorWaBJ
import Derived.Test.YtkcapiblicfboaaGreatDoorMemJ
import Derived.Maps.AppendAt
namespace Go.Proofs.YtkcapiblicfboaaGreatDoor
open Go.RowKit Go.Shelf
set_option maxRecDepth 8000

theorem isOfNode_any (c : ChT) (w : World) :
    Calls Tryz.prog 142 #[.agg (chCs c)] w fun e w' => e = .returned (.bool (c.1 != 4)) ∧ Below w.heap.size w w' := by
  have HB : Hid (Below w.heap.size w (w.alloc (.cells (chCs c) 59))) := (Below.refl _ w).alloc (Nat.le_refl _) _
  cases h : (c.1 != 4)
  · go_enter Tryz.func142, Tryz.ntmps142
    go_wp2
    all_goals (go_ret; exact ⟨rfl, HB.out⟩)
  · go_enter Tryz.func142, Tryz.ntmps142
    go_wp2
    all_goals (go_ret; exact ⟨rfl, HB.out⟩)

set_option maxHeartbeats 1000000 in
theorem isChange_any (c : ChT) (w : World) (hl : c.2.size ≤ 4294967296) :
    Calls Tryz.prog 50 #[.agg (chCs c)] w fun e w' => e = .returned (.bool (chOk c)) ∧ Below w.heap.size w w' := by
  obtain ⟨kd, p⟩ := c
  have hB : Below w.heap.size w (w.alloc (.cells (chCs (kd, p)) 59)) := (Below.refl _ w).alloc (Nat.le_refl _) _
  have HB0 : Hid (Below w.heap.size w (w.alloc (.cells (chCs (kd, p)) 59))) := hB
  have HC : Hid (Calls Tryz.prog 79 #[.string p] (w.alloc (.cells (chCs (kd, p)) 59)) fun e w' => e = .returned (.bool (isPb p.data.toList)) ∧ Hid (Below w.heap.size w w')) :=
    (wIsPath_any p _ hl).mono (fun e w' hh => ⟨hh.1, hB.trans (hh.2.mono hB.size)⟩)
  clear hB
  by_cases h1 : 1 ≤ kd
  · have d1 : decide (1 ≤ kd) = true := by simpa using h1
    by_cases h4 : kd ≤ 4
    · have d4 : decide (kd ≤ 4) = true := by simpa using h4
      have hv : chOk (kd, p) = isPb p.data.toList := by unfold chOk; rw [d1, d4]; rfl
      rw [hv]
      generalize isPb p.data.toList = b at *
      clear hv h1 h4
      go_enter Tryz.func50, Tryz.ntmps50
      go_wp2_with (go_at_call 79; refine Calls.mono HC.out ?_; rintro e w1 ⟨rfl, HB⟩)
      all_goals (go_ret; exact ⟨rfl, HB.out⟩)
    · have d4 : decide (kd ≤ 4) = false := by simpa using h4
      have hv : chOk (kd, p) = false := by unfold chOk; rw [d1, d4]; rfl
      rw [hv]
      clear hv h1 h4 HC
      go_enter Tryz.func50, Tryz.ntmps50
      go_wp2
      all_goals (go_ret; exact ⟨rfl, HB0.out⟩)
  · have d1 : decide (1 ≤ kd) = false := by simpa using h1
    have hv : chOk (kd, p) = false := by unfold chOk; rw [d1]; rfl
    rw [hv]
    clear hv h1 HC
    go_enter Tryz.func50, Tryz.ntmps50
    go_wp2
    all_goals (go_ret; exact ⟨rfl, HB0.out⟩)

/-- Is it this path that changes? -/
def smP (c : ChT) (p : ByteArray) : Bool := c.2.toList == p.toList

set_option maxHeartbeats 1000000 in
theorem metData (c : ChT) (p : ByteArray) (w : World) :
    Calls Tryz.prog 141 #[.agg #[.string p], .agg (chCs c)] w fun e w' => e = .returned (.bool (smP c p && (c.1 != 4))) ∧ Below w.heap.size w w' := by
  obtain ⟨kd, q⟩ := c
  have hB : Below w.heap.size w ((w.alloc (.cells #[.string p] 190)).alloc (.cells (chCs (kd, q)) 59)) := ((Below.refl _ w).alloc (Nat.le_refl _) _).alloc (by simp) _
  have HB0 : Hid (Below w.heap.size w ((w.alloc (.cells #[.string p] 190)).alloc (.cells (chCs (kd, q)) 59))) := hB
  have HC : Hid (Calls Tryz.prog 142 #[.agg (chCs (kd, q))] ((w.alloc (.cells #[.string p] 190)).alloc (.cells (chCs (kd, q)) 59)) fun e w' => e = .returned (.bool (kd != 4)) ∧ Hid (Below w.heap.size w w')) :=
    (isOfNode_any (kd, q) _).mono (fun e w' hh => ⟨hh.1, hB.trans (hh.2.mono hB.size)⟩)
  clear hB
  show Calls _ _ _ _ (fun e w' => e = .returned (.bool (smP (kd, q) p && (kd != 4))) ∧ _)
  generalize (kd != 4) = b at *
  cases hs : smP (kd, q) p
  · have hq : (q.toList == p.toList) = false := hs
    rw [Bool.false_and]
    clear hs HC
    go_enter Tryz.func141, Tryz.ntmps141
    go_wp2
    all_goals (go_ret; exact ⟨rfl, HB0.out⟩)
  · have hq : (q.toList == p.toList) = true := hs
    rw [Bool.true_and]
    clear hs
    go_enter Tryz.func141, Tryz.ntmps141
    go_wp2_with (go_at_call 142; refine Calls.mono HC.out ?_; rintro e w1 ⟨rfl, HB⟩)
    all_goals (go_ret; exact ⟨rfl, HB.out⟩)

set_option maxHeartbeats 1000000 in
theorem metChild (c : ChT) (p : ByteArray) (w : World) :
    Calls Tryz.prog 143 #[.agg #[.string p], .agg (chCs c)] w fun e w' => e = .returned (.bool (smP c p && ((c.1 == 2) || (c.1 == 4)))) ∧ Below w.heap.size w w' := by
  obtain ⟨kd, q⟩ := c
  have HB0 : Hid (Below w.heap.size w ((w.alloc (.cells #[.string p] 191)).alloc (.cells (chCs (kd, q)) 59))) := ((Below.refl _ w).alloc (Nat.le_refl _) _).alloc (by simp) _
  show Calls _ _ _ _ (fun e w' => e = .returned (.bool (smP (kd, q) p && ((kd == 2) || (kd == 4)))) ∧ _)
  cases hs : smP (kd, q) p
  · have hq : (q.toList == p.toList) = false := hs
    rw [Bool.false_and]
    clear hs
    go_enter Tryz.func143, Tryz.ntmps143
    go_wp2
    all_goals (go_ret; exact ⟨rfl, HB0.out⟩)
  · have hq : (q.toList == p.toList) = true := hs
    rw [Bool.true_and]
    clear hs
    cases h2 : (kd == 2)
    · cases h4 : (kd == 4)
      · go_enter Tryz.func143, Tryz.ntmps143
        go_wp2
        all_goals (go_ret; exact ⟨rfl, HB0.out⟩)
      · go_enter Tryz.func143, Tryz.ntmps143
        go_wp2
        all_goals (go_ret; exact ⟨rfl, HB0.out⟩)
    · go_enter Tryz.func143, Tryz.ntmps143
      go_wp2
      all_goals (go_ret; exact ⟨by simp, HB0.out⟩)

theorem metStay (c : ChT) (p : ByteArray) (w : World) :
    Calls Tryz.prog 144 #[.agg #[.string p], .agg (chCs c)] w fun e w' => e = .returned (.bool (smP c p)) ∧ Below w.heap.size w w' := by
  obtain ⟨kd, q⟩ := c
  have HB0 : Hid (Below w.heap.size w ((w.alloc (.cells #[.string p] 192)).alloc (.cells (chCs (kd, q)) 59))) := ((Below.refl _ w).alloc (Nat.le_refl _) _).alloc (by simp) _
  cases hs : smP (kd, q) p
  · have hq : (q.toList == p.toList) = false := hs
    clear hs
    go_enter Tryz.func144, Tryz.ntmps144
    go_wp2
    all_goals (go_ret; exact ⟨rfl, HB0.out⟩)
  · have hq : (q.toList == p.toList) = true := hs
    clear hs
    go_enter Tryz.func144, Tryz.ntmps144
    go_wp2
    all_goals (go_ret; exact ⟨rfl, HB0.out⟩)

set_option maxHeartbeats 1000000 in
theorem metBelow (c : ChT) (p : ByteArray) (w : World) (hl : c.2.size ≤ 4294967296) :
    Calls Tryz.prog 145 #[.agg #[.string p], .agg (chCs c)] w fun e w' => e = .returned (.bool ((c.1 != 4) && (smP c p || belowB c.2.data.toList p.data.toList))) ∧ Below w.heap.size w w' := by
  obtain ⟨kd, q⟩ := c
  have hB : Below w.heap.size w ((w.alloc (.cells #[.string p] 193)).alloc (.cells (chCs (kd, q)) 59)) := ((Below.refl _ w).alloc (Nat.le_refl _) _).alloc (by simp) _
  have n0 : ((w.alloc (.cells #[.string p] 193)).alloc (.cells (chCs (kd, q)) 59)).heap[w.heap.size]? = some (.cells #[.string p] 193 (0, 0)) := by
    rw [Below.heap_alloc _ _ _ (by simp)]; exact heap_alloc_new _ _
  have n1 : ((w.alloc (.cells #[.string p] 193)).alloc (.cells (chCs (kd, q)) 59)).heap[w.heap.size + 1]? = some (.cells (chCs (kd, q)) 59 (0, 0)) := by
    have := heap_alloc_new (w.alloc (.cells #[.string p] 193)) (.cells (chCs (kd, q)) 59); rwa [World.size_alloc] at this
  have HC : Hid (Calls Tryz.prog 142 #[.agg (chCs (kd, q))] ((w.alloc (.cells #[.string p] 193)).alloc (.cells (chCs (kd, q)) 59)) fun e w' => e = .returned (.bool (kd != 4)) ∧ w'.heap[w.heap.size]? = some (.cells #[.string p] 193 (0, 0)) ∧ w'.heap[w.heap.size + 1]? = some (.cells (chCs (kd, q)) 59 (0, 0)) ∧ Hid (Below w.heap.size w w')) :=
    (isOfNode_any (kd, q) _).mono (fun e w' hh => ⟨hh.1, (hh.2.block _ (by simp; omega)).trans n0, (hh.2.block _ (by simp)).trans n1, hB.trans (hh.2.mono hB.size)⟩)
  have HD : Hid (∀ V, Below w.heap.size w V → Calls Tryz.prog 146 #[.string q, .string p] V fun e w' => e = .returned (.bool (belowB q.data.toList p.data.toList)) ∧ Hid (Below w.heap.size w w')) := fun V hV => by
    refine (below_any q p V hl).mono (fun e w' hh => ⟨?_, hV.trans (hh.2.mono hV.size)⟩)
    rw [← below_doc _ _ (by rw [← size_list]; exact hl)]
    exact hh.1
  clear hB n0 n1
  show Calls _ _ _ _ (fun e w' => e = .returned (.bool ((kd != 4) && (smP (kd, q) p || belowB q.data.toList p.data.toList))) ∧ _)
  generalize belowB q.data.toList p.data.toList = bb at *
  cases hk : (kd != 4)
  · rw [hk] at HC
    rw [Bool.false_and]
    clear hk HD
    go_enter Tryz.func145, Tryz.ntmps145
    go_wp2_with fail
    refine Calls.mono HC.out ?_
    rintro e w1 ⟨rfl, n0, n1, HB⟩
    clear HC
    go_wp2
    all_goals (go_ret; exact ⟨rfl, HB.out⟩)
  · rw [hk] at HC
    rw [Bool.true_and]
    clear hk
    cases hs : smP (kd, q) p
    · have hq : (q.toList == p.toList) = false := hs
      rw [Bool.false_or]
      clear hs
      go_enter Tryz.func145, Tryz.ntmps145
      go_wp2_with fail
      refine Calls.mono HC.out ?_
      rintro e w1 ⟨rfl, n0, n1, HB⟩
      clear HC
      have z0 := lt_of_block n0
      have z1 := lt_of_block n1
      have c0 := cell_of_row w1 w.heap.size 0 _ _ _ n0
      have c1 := cell_of_row w1 (w.heap.size + 1) 1 _ _ _ n1
      clear n0 n1
      go_wp2_with (go_at_call 146; refine Calls.mono (HD.out _ HB.out) ?_; rintro e w2 ⟨rfl, HB2⟩)
      all_goals (go_ret; exact ⟨rfl, HB2.out⟩)
    · have hq : (q.toList == p.toList) = true := hs
      rw [Bool.true_or]
      clear hs
      go_enter Tryz.func145, Tryz.ntmps145
      go_wp2_with fail
      refine Calls.mono HC.out ?_
      rintro e w1 ⟨rfl, n0, n1, HB⟩
      clear HC
      have z0 := lt_of_block n0
      have z1 := lt_of_block n1
      have c0 := cell_of_row w1 w.heap.size 0 _ _ _ n0
      have c1 := cell_of_row w1 (w.heap.size + 1) 1 _ _ _ n1
      clear n0 n1
      go_wp2
      all_goals (go_ret; exact ⟨rfl, HB.out⟩)

end Go.Proofs.YtkcapiblicfboaaGreatDoor

/- Rows of a list's own, whatever size its elements have: an append into its own room, or into a new row that leaves the old one as it was. -/
namespace Go.Proofs.YtkcapiblicfboaaGreatDoor
open Go.RowKit
set_option maxRecDepth 8000

/-- A row in another block than the one that changed. -/
theorem row_other {w w' : World} {b : Option Nat} {base : Nat} {T : TypeId} {z n : Nat} {v : Value} {xs : List Value} (h : w.ownsRow base T z v n xs) (hg : w.grownBy w' b) (hne : ∀ g, v.ownBlock = some g → b ≠ some g) : w'.ownsRow base T z v n xs := by
  obtain ⟨h1, h2 | ⟨g, cap, cur, rfl, a2, a3, a4⟩⟩ := h
  · exact ⟨h1, .inl h2⟩
  · refine ⟨h1, .inr ⟨g, cap, cur, rfl, a2, ?_, a4⟩⟩
    rw [hg.block g (lt_of_block a3) (fun e => hne g rfl e.symm)]
    exact a3

/-- The beginning of a row is a row, with the same room. -/
theorem row_front {w : World} {base : Nat} {T : TypeId} {z n m g cap : Nat} {xs ys : List Value} (h : w.ownsRow base T z (.slice (some ⟨g, 0, none⟩) (n + m) cap) (n + m) (xs ++ ys)) (hl : xs.length = n * z) : w.ownsRow base T z (.slice (some ⟨g, 0, none⟩) n cap) n xs := by
  refine ⟨hl, ?_⟩
  obtain ⟨h1, ⟨e, _⟩ | ⟨g', cap', cur, e, a2, a3, a4, a5, a6, a7⟩⟩ := h
  · cases e
  · simp only [Value.slice.injEq, Option.some.injEq, Addr.mk.injEq, and_true, true_and] at e
    obtain ⟨rfl, rfl⟩ := e
    refine .inr ⟨g, cap, cur, rfl, a2, a3, by omega, a5, a6, ?_⟩
    have := congrArg (List.take (n * z)) a7
    rw [List.take_take, Nat.min_eq_left (Nat.mul_le_mul_right z (by omega)), ← hl, List.take_left] at this
    rw [← hl]
    exact this

/-- One more element: in its own room, or in a new row, the old one left as it was. -/
theorem app_row {P : Program} {w : World} (base : Nat) (t ty e : TypeId) (i : TypeInfo) (zv : Value) (size bytes : Nat) (ht : P.underlying t = some (.slice e)) (hi : P.info? e = some i) (hz : i.zero = some zv)
    (hsize : i.size = size) (hby : i.bytes = bytes) (hzs : zv.cells.size = size) (hsz : 0 < size) (v : Value) (n : Nat) (xs : List Value) (ho : w.ownsRow base e size v n xs) (m : Nat) (news : List Value) (hn : news.length = size)
    (hm : w.heap[m]? = some (.cells news.toArray e (0, 0))) (h1 : ∀ u ∈ news, u.oneCell' = true) (hl : n ≤ 2000000000) (hb1 : bytes ≤ 1000) (hb : base ≤ w.heap.size) :
    ∃ v' w', (Builtin.append_ #[t, t] ty #[v, .slice (some ⟨m, 0, none⟩) 1 1]).run P w = .ok v' w' ∧ w'.ownsRow base e size v' (n + 1) (xs ++ news) ∧ w.grownBy w' v.ownBlock ∧
      ((∃ g cap, v = .slice (some ⟨g, 0, none⟩) n cap ∧ v' = .slice (some ⟨g, 0, none⟩) (n + 1) cap) ∨ (v'.ownBlock = some w.heap.size ∧ w.grownBy w' none)) := by
  have hnews : ∀ j u, news[j]? = some u → w.cell? ((⟨m, 0, none⟩ : Addr).add j) = some u := fun j u hj => by
    rw [Addr.add_lit, Nat.zero_add, cell_of_row w m j _ _ _ hm, ← Array.getElem?_toList]
    exact hj
  have hby2 : (n + 1) * bytes ≤ 140737488355328 := Nat.le_trans (Nat.mul_le_mul (show n + 1 ≤ 2000000001 by omega) hb1) (by decide)
  obtain ⟨v', w', hr, o1, o2, o3, o4⟩ := run_append_own_at (P := P) w base t ty e i zv size bytes ht hi hz hsize hby hzs hsz v n xs ho ⟨m, 0, none⟩ 1 1 news (by rw [hn, Nat.one_mul]) hnews h1 (by unfold maxLen; omega) hby2 hb
  refine ⟨v', w', hr, o1, o2, ?_⟩
  obtain ⟨hxl, ⟨rfl, h0⟩ | ⟨g, cap, cur, rfl, a2, a3, a4, a5, a6, a7⟩⟩ := ho
  · right
    rcases o4 with o4 | o4
    · obtain ⟨_, ⟨_, h1'⟩ | ⟨g, cap, cur, rfl, _⟩⟩ := o1
      · omega
      · simp [Value.ownBlock] at o4
    · exact ⟨o4, o2⟩
  · by_cases hroom : n + 1 ≤ cap
    · left
      have hfit : n * i.size + news.length ≤ cur.size := by
        have := Nat.mul_le_mul_right size hroom
        rw [Nat.add_mul, Nat.one_mul] at this
        rw [hsize, a6, hn]
        exact this
      have h2 := run_append_room (P := P) w t ty e i ht hi g n cap cur a3 ⟨m, 0, none⟩ 1 1 news (by rw [hn, hsize, Nat.one_mul]) hnews h1 hroom hfit
      rw [hr] at h2
      injection h2 with e1 e2
      exact ⟨g, cap, rfl, e1⟩
    · right
      have holds : ∀ j u, xs[j]? = some u → w.cell? ((⟨g, 0, none⟩ : Addr).add j) = some u := fun j u hj => by
        rw [Addr.add_lit, Nat.zero_add, cell_of_row w g j _ _ _ a3, ← Array.getElem?_toList]
        rw [← a7, List.getElem?_take] at hj
        split at hj
        · exact hj
        · cases hj
      have h2 := run_append_grow (P := P) w t ty e i zv ht hi hz ⟨g, 0, none⟩ n cap xs (by rw [hxl, hsize]) holds ⟨m, 0, none⟩ 1 1 news (by rw [hn, hsize, Nat.one_mul]) hnews (by omega) (by omega) (growslice_fits (by omega) (by rw [hby]; exact hby2))
      rw [hr] at h2
      injection h2 with e1 e2
      rw [e1, e2]
      exact ⟨rfl, rfl, rfl, rfl, by simp, fun k hk _ => heap_alloc_old w.drew _ hk⟩

end Go.Proofs.YtkcapiblicfboaaGreatDoor
