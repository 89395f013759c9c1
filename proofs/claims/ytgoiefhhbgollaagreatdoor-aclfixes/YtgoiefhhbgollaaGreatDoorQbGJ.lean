/- What acl's addressRange, isAddress, isRange and isWithin answer. -/
import Derived.Test.YtgoiefhhbgollaaGreatDoorQbEJ
namespace Go.Proofs.YtgoiefhhbgollaaGreatDoor
open Go.RowKit Go.Shelf
set_option maxRecDepth 8000

def rngDV (l : Bs) : Value := match rngD l with
  | some ([a, b, c, d], n) => .tuple #[.agg #[u8V a, u8V b, u8V c, u8V d], .int .i64 (n : Int), .bool true]
  | _ => .tuple #[.agg zero4, .int .i64 0, .bool false]

theorem adDV_some {l : Bs} {a b c d : Nat} (h : adD l = some [a, b, c, d]) : adDV l = .tuple #[.agg #[u8V a, u8V b, u8V c, u8V d], .bool true] := by unfold adDV; rw [h]
theorem adDV_none {l : Bs} (h : adD l = none) : adDV l = .tuple #[.agg zero4, .bool false] := by unfold adDV; rw [h]
theorem rngDV_some {l : Bs} {a b c d n : Nat} (h : rngD l = some ([a, b, c, d], n)) : rngDV l = .tuple #[.agg #[u8V a, u8V b, u8V c, u8V d], .int .i64 (n : Int), .bool true] := by unfold rngDV; rw [h]
theorem rngDV_none {l : Bs} (h : rngD l = none) : rngDV l = .tuple #[.agg zero4, .int .i64 0, .bool false] := by unfold rngDV; rw [h]

theorem hdC_le (c : UInt8) (l : Bs) : (hdC c l).length ≤ l.length ∧ (tlC c l).length ≤ l.length := by
  rcases hdC_split c l with ⟨_, h2, h3⟩ | ⟨_, _, h3⟩
  · rw [h2, h3]; simp
  · have := congrArg List.length h3
    simp at this
    omega

/-- address over a list of bytes. -/
theorem address3_any (l : Bs) (hl : l.length ≤ 4294967296) (w : World) : Calls Tryz.prog 123 #[bytesV l] w fun e w' => e = .returned (adDV l) ∧ Below w.heap.size w w' := by
  have := address2_any ⟨l.toArray⟩ w (by rw [size_list]; simpa using hl)
  simpa using this

theorem number3_any (l : Bs) (hl : l.length ≤ 4294967296) (w : World) : Calls Tryz.prog 131 #[bytesV l, .int .i64 32] w fun e w' => e = .returned (numDV 32 l) ∧ Below w.heap.size w w' := by
  have := numD_any ⟨l.toArray⟩ 32 (by rw [size_list]; simpa using hl) (by omega) w
  simpa using this

theorem results_ar (tm : Array Value) (n : Nat) (WW : World) {a b c e p q : Value} (h2 : tm.getD 2 undef = .pointer (some ⟨n, 0, none⟩)) (h3 : tm.getD 3 undef = p) (h4 : tm.getD 4 undef = q)
    (m0 : WW.cell? ⟨n, 0, none⟩ = some a) (m1 : WW.cell? ⟨n, 1, none⟩ = some b) (m2 : WW.cell? ⟨n, 2, none⟩ = some c) (m3 : WW.cell? ⟨n, 3, none⟩ = some e) :
    (results Tryz.f124 tm).run Tryz.prog WW = .ok (.tuple #[.agg #[a, b, c, e], p, q]) WW := by
  have hres : Tryz.f124.results = #[.cell 2 213, .tmp 3, .tmp 4] := by kernel_rfl
  have h2' : tm[2]?.getD undef = .pointer (some ⟨n, 0, none⟩) := by rw [← Array.getD_eq_getD_getElem?]; exact h2
  have h3' : tm[3]?.getD undef = p := by rw [← Array.getD_eq_getD_getElem?]; exact h3
  have h4' : tm[4]?.getD undef = q := by rw [← Array.getD_eq_getD_getElem?]; exact h4
  simp only [results, hres]
  go_simp

theorem fin4 {n : Nat} {w w3 : World} {x y z u : Value} {T : TypeId} (h0 : w3.heap[n]? = some (.cells #[x, y, z, u] T (0, 0))) (hB : Below n w w3) (a b c d : Value) (o : Obj) :
    ((((((w3.setCell ⟨n, 0, none⟩ a).setCell ⟨n, 1, none⟩ b).setCell ⟨n, 2, none⟩ c).setCell ⟨n, 3, none⟩ d).alloc o).cell? ⟨n, 0, none⟩ = some a ∧ (((((w3.setCell ⟨n, 0, none⟩ a).setCell ⟨n, 1, none⟩ b).setCell ⟨n, 2, none⟩ c).setCell ⟨n, 3, none⟩ d).alloc o).cell? ⟨n, 1, none⟩ = some b ∧ (((((w3.setCell ⟨n, 0, none⟩ a).setCell ⟨n, 1, none⟩ b).setCell ⟨n, 2, none⟩ c).setCell ⟨n, 3, none⟩ d).alloc o).cell? ⟨n, 2, none⟩ = some c ∧ (((((w3.setCell ⟨n, 0, none⟩ a).setCell ⟨n, 1, none⟩ b).setCell ⟨n, 2, none⟩ c).setCell ⟨n, 3, none⟩ d).alloc o).cell? ⟨n, 3, none⟩ = some d) ∧ Below n w (((((w3.setCell ⟨n, 0, none⟩ a).setCell ⟨n, 1, none⟩ b).setCell ⟨n, 2, none⟩ c).setCell ⟨n, 3, none⟩ d).alloc o) := by
  have hlt := lt_of_block h0
  have q := heap_setq (i := 3) d (heap_setq (i := 2) c (heap_setq (i := 1) b (heap_setq (i := 0) a h0)))
  have q2 : (((((w3.setCell ⟨n, 0, none⟩ a).setCell ⟨n, 1, none⟩ b).setCell ⟨n, 2, none⟩ c).setCell ⟨n, 3, none⟩ d).alloc o).heap[n]? = some (.cells #[a, b, c, d] T (0, 0)) := by
    rw [Below.heap_alloc _ _ _ (by simpa using hlt)]
    exact q
  have hsz : n ≤ ((((w3.setCell ⟨n, 0, none⟩ a).setCell ⟨n, 1, none⟩ b).setCell ⟨n, 2, none⟩ c).setCell ⟨n, 3, none⟩ d).heap.size := by
    have : n ≤ w3.heap.size := by omega
    simpa using this
  exact ⟨(cells4 q2).1, ((((hB.setCell (p := ⟨n, 0, none⟩) (Nat.le_refl _) _).setCell (p := ⟨n, 1, none⟩) (Nat.le_refl _) _).setCell (p := ⟨n, 2, none⟩) (Nat.le_refl _) _).setCell (p := ⟨n, 3, none⟩) (Nat.le_refl _) _).alloc hsz o⟩

/-- Its end, for every way in. -/
theorem arange_walk (s : ByteArray) (cut fits ok : Bool) (n : Int) (A : Value) (hA : ∃ a b c d : Int, A = .agg #[.int .u8 a, .int .u8 b, .int .u8 c, .int .u8 d]) (val : Value) (w : World)
    (h1 : ∀ w, Calls Tryz.prog 132 #[.string s, .string slashB] w fun e w' => e = .returned (.tuple #[bytesV (hdC 47 s.data.toList), bytesV (tlC 47 s.data.toList), .bool cut]) ∧ ∃ n, w' = w.drewN n)
    (h2 : ∀ w, Calls Tryz.prog 131 #[bytesV (tlC 47 s.data.toList), .int .i64 32] w fun e w' => e = .returned (.tuple #[.int .i64 n, .bool fits]) ∧ Below w.heap.size w w')
    (h3 : ∀ w, Calls Tryz.prog 123 #[bytesV (hdC 47 s.data.toList)] w fun e w' => e = .returned (.tuple #[A, .bool ok]) ∧ Below w.heap.size w w')
    (hv : val = if (!ok || !(fits || !cut)) = true then .tuple #[.agg zero4, .int .i64 0, .bool false] else .tuple #[A, .int .i64 (if cut = true then n else 32), .bool true]) :
    Calls Tryz.prog 124 #[.string s] w fun e w' => e = .returned val ∧ Below w.heap.size w w' := by
  have H1 : Hid _ := h1
  have H2 : Hid _ := h2
  have H3 : Hid _ := h3
  obtain ⟨a, b, c, d, rfl⟩ := hA
  have HV : Hid _ := hv
  clear h1 h2 h3 hv
  obtain ⟨t, ht⟩ : ∃ t, t = bytesV (hdC 47 s.data.toList) := ⟨_, rfl⟩
  obtain ⟨u, hu⟩ : ∃ u, u = bytesV (tlC 47 s.data.toList) := ⟨_, rfl⟩
  rw [← ht, ← hu] at H1
  rw [← hu] at H2
  rw [← ht] at H3
  clear ht hu
  cases cut <;> cases fits <;> cases ok <;>
  · go_enter Tryz.func124, Tryz.ntmps124
    go_wp2_with fail
    refine (H1.out _).mono ?_
    rintro e w1 ⟨rfl, m, rfl⟩
    go_wp2_with fail
    refine (H2.out _).mono ?_
    rintro e w2 ⟨rfl, hB2⟩
    have r2 : w2.heap[w.heap.size]? = some (.cells zero4 213 (0, 0)) := (hB2.block w.heap.size (by simp)).trans (heap_alloc_new w _)
    have HB2 : Hid (Below w.heap.size w w2 ∧ w.heap.size + 1 ≤ w2.heap.size) := ⟨(below_drew' ((Below.refl _ w).alloc (Nat.le_refl _) _) m).trans (hB2.mono (by simp)), by have := hB2.size; simpa using this⟩
    clear hB2
    go_wp2_with fail
    refine (H3.out _).mono ?_
    rintro e w3 ⟨rfl, hB3⟩
    have r3 : w3.heap[w.heap.size]? = some (.cells zero4 213 (0, 0)) := (hB3.block w.heap.size HB2.out.2).trans r2
    have HB3 : Hid (Below w.heap.size w w3) := HB2.out.1.trans (hB3.mono HB2.out.1.size)
    clear hB3
    obtain ⟨⟨y0, y1, y2, y3⟩, f0, f1, f2, f3⟩ := cells4 r3
    have hlt3 : w.heap.size < w3.heap.size := lt_of_block r3
    go_wp2
    all_goals (refine bodyPost_ret (results_ar _ w.heap.size _ rfl rfl rfl (fin4 r3 HB3.out _ _ _ _ _).1.1 (fin4 r3 HB3.out _ _ _ _ _).1.2.1 (fin4 r3 HB3.out _ _ _ _ _).1.2.2.1 (fin4 r3 HB3.out _ _ _ _ _).1.2.2.2) rfl ?_; exact ⟨by rw [HV.out]; rfl, (fin4 r3 HB3.out _ _ _ _ _).2⟩)

theorem addressRange_any (s : ByteArray) (hs : s.size ≤ 4294967296) (w : World) :
    Calls Tryz.prog 124 #[.string s] w fun e w' => e = .returned (rngDV s.data.toList) ∧ Below w.heap.size w w' := by
  have hle := hdC_le 47 s.data.toList
  rw [← size_list] at hle
  have h1 := fun w => cut_slash s w hs
  have h2 := number3_any (tlC 47 s.data.toList) (by omega)
  have h3 := address3_any (hdC 47 s.data.toList) (by omega)
  by_cases hm : (47 : UInt8) ∈ s.data.toList
  · rw [decide_eq_true hm] at h1
    cases hn : numF 32 (tlC 47 s.data.toList) with
    | none =>
      have hr : rngD s.data.toList = none := by
        unfold rngD
        rw [if_pos hm, hn]
        cases adD (hdC 47 s.data.toList) <;> rfl
      have e2 : numDV 32 (tlC 47 s.data.toList) = .tuple #[.int .i64 0, .bool false] := by unfold numDV; rw [hn]
      rw [e2] at h2
      cases ha : adD (hdC 47 s.data.toList) with
      | none =>
        rw [adDV_none ha] at h3
        exact arange_walk s true false false 0 _ ⟨_, _, _, _, rfl⟩ _ w h1 h2 h3 (by rw [rngDV_none hr]; rfl)
      | some ns =>
        obtain ⟨a, b, c, d, rfl, _⟩ := adD_four ha
        rw [adDV_some ha] at h3
        exact arange_walk s true false true 0 _ ⟨_, _, _, _, rfl⟩ _ w h1 h2 h3 (by rw [rngDV_none hr]; rfl)
    | some n =>
      have e2 : numDV 32 (tlC 47 s.data.toList) = .tuple #[.int .i64 (n : Int), .bool true] := by unfold numDV; rw [hn]
      rw [e2] at h2
      cases ha : adD (hdC 47 s.data.toList) with
      | none =>
        have hr : rngD s.data.toList = none := by unfold rngD; rw [if_pos hm, hn, ha]
        rw [adDV_none ha] at h3
        exact arange_walk s true true false n _ ⟨_, _, _, _, rfl⟩ _ w h1 h2 h3 (by rw [rngDV_none hr]; rfl)
      | some ns =>
        obtain ⟨a, b, c, d, rfl, _⟩ := adD_four ha
        have hr : rngD s.data.toList = some ([a, b, c, d], n) := by unfold rngD; rw [if_pos hm, hn, ha]
        rw [adDV_some ha] at h3
        exact arange_walk s true true true n _ ⟨_, _, _, _, rfl⟩ _ w h1 h2 h3 (by rw [rngDV_some hr]; rfl)
  · rw [decide_eq_false hm] at h1
    rcases hdC_split 47 s.data.toList with ⟨_, hh, ht⟩ | ⟨h, _⟩
    · have e2 : numDV 32 (tlC 47 s.data.toList) = .tuple #[.int .i64 0, .bool false] := by rw [ht]; rfl
      rw [e2] at h2
      cases ha : adD (hdC 47 s.data.toList) with
      | none =>
        have hr : rngD s.data.toList = none := by unfold rngD; rw [if_neg hm, ← hh, ha]; rfl
        rw [adDV_none ha] at h3
        exact arange_walk s false false false 0 _ ⟨_, _, _, _, rfl⟩ _ w h1 h2 h3 (by rw [rngDV_none hr]; rfl)
      | some ns =>
        obtain ⟨a, b, c, d, rfl, _⟩ := adD_four ha
        have hr : rngD s.data.toList = some ([a, b, c, d], 32) := by unfold rngD; rw [if_neg hm]; rw [hh] at ha; rw [ha]; rfl
        rw [adDV_some ha] at h3
        exact arange_walk s false false true 0 _ ⟨_, _, _, _, rfl⟩ _ w h1 h2 h3 (by rw [rngDV_some hr]; rfl)
    · exact absurd h hm

set_option maxHeartbeats 1000000 in
theorem isAddress_any (s : ByteArray) (hs : s.size ≤ 4294967296) (w : World) :
    Calls Tryz.prog 111 #[.string s] w fun e w' => e = .returned (.bool (adD s.data.toList).isSome) ∧ Below w.heap.size w w' := by
  obtain ⟨x0, x1, x2, x3, b, hA, hb⟩ : ∃ (x0 x1 x2 x3 : Int) (b : Bool), adDV s.data.toList = .tuple #[.agg #[.int .u8 x0, .int .u8 x1, .int .u8 x2, .int .u8 x3], .bool b] ∧ b = (adD s.data.toList).isSome := by
    cases ha : adD s.data.toList with
    | none => exact ⟨_, _, _, _, _, adDV_none ha, rfl⟩
    | some ns => obtain ⟨a, b, c, d, rfl, _⟩ := adD_four ha; exact ⟨_, _, _, _, _, adDV_some ha, rfl⟩
  have H : Hid (∀ w, Calls Tryz.prog 123 #[.string s] w fun e w' => e = .returned (.tuple #[.agg #[.int .u8 x0, .int .u8 x1, .int .u8 x2, .int .u8 x3], .bool b]) ∧ Below w.heap.size w w') := fun w => by rw [← hA]; exact address2_any s w hs
  rw [← hb]
  clear hA hb
  go_enter Tryz.func111, Tryz.ntmps111
  go_wp2_with fail
  refine (H.out _).mono ?_
  rintro e w1 ⟨rfl, hB⟩
  have HB : Hid _ := hB
  clear hB
  go_wp2
  all_goals (go_ret; first | exact ⟨rfl, HB.out⟩ | exact ⟨rfl, HB.out.alloc HB.out.size _⟩)

set_option maxHeartbeats 1000000 in
theorem isRange_any (s : ByteArray) (hs : s.size ≤ 4294967296) (w : World) :
    Calls Tryz.prog 112 #[.string s] w fun e w' => e = .returned (.bool (rngD s.data.toList).isSome) ∧ Below w.heap.size w w' := by
  obtain ⟨x0, x1, x2, x3, n, b, hA, hb⟩ : ∃ (x0 x1 x2 x3 n : Int) (b : Bool), rngDV s.data.toList = .tuple #[.agg #[.int .u8 x0, .int .u8 x1, .int .u8 x2, .int .u8 x3], .int .i64 n, .bool b] ∧ b = (rngD s.data.toList).isSome := by
    cases ha : rngD s.data.toList with
    | none => exact ⟨_, _, _, _, _, _, rngDV_none ha, rfl⟩
    | some x => obtain ⟨ns, n⟩ := x; obtain ⟨_, ⟨a, b, c, d, rfl, _⟩, _⟩ := (rngD_rngR _).1 _ _ ha; exact ⟨_, _, _, _, _, _, rngDV_some ha, rfl⟩
  have H : Hid (∀ w, Calls Tryz.prog 124 #[.string s] w fun e w' => e = .returned (.tuple #[.agg #[.int .u8 x0, .int .u8 x1, .int .u8 x2, .int .u8 x3], .int .i64 n, .bool b]) ∧ Below w.heap.size w w') := fun w => by rw [← hA]; exact addressRange_any s hs w
  rw [← hb]
  clear hA hb
  go_enter Tryz.func112, Tryz.ntmps112
  go_wp2_with fail
  refine (H.out _).mono ?_
  rintro e w1 ⟨rfl, hB⟩
  have HB : Hid _ := hB
  clear hB
  go_wp2
  all_goals (go_ret; first | exact ⟨rfl, HB.out⟩ | exact ⟨rfl, HB.out.alloc HB.out.size _⟩)

end Go.Proofs.YtgoiefhhbgollaaGreatDoor

/- What acl's isWithin answers. -/
namespace Go.Proofs.YtgoiefhhbgollaaGreatDoor
open Go.RowKit Go.Shelf
set_option maxRecDepth 8000

/-- An address lies within a range. -/
def witD (e l : Bs) : Bool := match rngD e, adD l with
  | some (xs, n), some ys => metA n xs ys
  | _, _ => false

theorem mk_eq {j x y : Nat} : (mk j x = mk j y) ↔ x / 2 ^ (8 - j) = y / 2 ^ (8 - j) := by
  unfold mk
  exact ⟨fun h => Nat.eq_of_mul_eq_mul_right (Nat.two_pow_pos _) h, fun h => by rw [h]⟩

theorem metA_mk (n a b c d a' b' c' d' : Nat) : metA n [a, b, c, d] [a', b', c', d'] = decide (mk (cnt n 0) a = mk (cnt n 0) a' ∧ mk (cnt n 1) b = mk (cnt n 1) b' ∧ mk (cnt n 2) c = mk (cnt n 2) c' ∧ mk (cnt n 3) d = mk (cnt n 3) d') := by
  rw [Bool.eq_iff_iff, decide_eq_true_eq]
  unfold metA
  simp only [mk_eq, List.range, List.range.loop, List.all_cons, List.all_nil, Bool.and_true, Bool.and_eq_true, beq_iff_eq]
  simp

/-- Two addresses in memory; what lay below lies as it lay. -/
def Wit (w : World) (b1 b2 : Nat) (x0 x1 x2 x3 y0 y1 y2 y3 : Int) (V : World) : Prop := V.heap[b1]? = some (.cells #[.int .u8 x0, .int .u8 x1, .int .u8 x2, .int .u8 x3] 213 (0, 0)) ∧ V.heap[b2]? = some (.cells #[.int .u8 y0, .int .u8 y1, .int .u8 y2, .int .u8 y3] 213 (0, 0)) ∧ Below w.heap.size w V

theorem Wit.below {w : World} {b1 b2 : Nat} {x0 x1 x2 x3 y0 y1 y2 y3 : Int} {V V' : World} (h : Wit w b1 b2 x0 x1 x2 x3 y0 y1 y2 y3 V) (hB : Below V.heap.size V V') : Wit w b1 b2 x0 x1 x2 x3 y0 y1 y2 y3 V' :=
  ⟨(hB.block b1 (lt_of_block h.1)).trans h.1, (hB.block b2 (lt_of_block h.2.1)).trans h.2.1, h.2.2.trans (hB.mono h.2.2.size)⟩

theorem Wit.drew {w : World} {b1 b2 : Nat} {x0 x1 x2 x3 y0 y1 y2 y3 : Int} {V : World} (h : Wit w b1 b2 x0 x1 x2 x3 y0 y1 y2 y3 V) : Wit w b1 b2 x0 x1 x2 x3 y0 y1 y2 y3 V.drew :=
  h.below ⟨rfl, rfl, rfl, Nat.le_refl _, fun _ _ => rfl⟩

/-- Four numbers of a byte each. -/
def Ok4 (x0 x1 x2 x3 : Int) : Prop := (0 ≤ x0 ∧ x0 ≤ 255) ∧ (0 ≤ x1 ∧ x1 ≤ 255) ∧ (0 ≤ x2 ∧ x2 ≤ 255) ∧ (0 ≤ x3 ∧ x3 ≤ 255)

def mkZ (j : Nat) (x : Int) : Int := ((mk j x.toNat : Nat) : Int)

theorem firstBits_int (n : Nat) (hn : n ≤ 32) (x0 x1 x2 x3 : Int) (h : Ok4 x0 x1 x2 x3) (w : World) :
    Calls Tryz.prog 126 #[.agg #[.int .u8 x0, .int .u8 x1, .int .u8 x2, .int .u8 x3], .int .i64 (n : Int)] w fun e w' => e = .returned (.agg #[.int .u8 (mkZ (cnt n 0) x0), .int .u8 (mkZ (cnt n 1) x1), .int .u8 (mkZ (cnt n 2) x2), .int .u8 (mkZ (cnt n 3) x3)]) ∧ Below w.heap.size w w' := by
  have := firstBits_any x0.toNat x1.toNat x2.toNat x3.toNat n hn (by have := h.1; omega) (by have := h.2.1; omega) (by have := h.2.2.1; omega) (by have := h.2.2.2; omega) w
  simp only [u8V] at this
  rw [Int.toNat_of_nonneg h.1.1, Int.toNat_of_nonneg h.2.1.1, Int.toNat_of_nonneg h.2.2.1.1, Int.toNat_of_nonneg h.2.2.2.1] at this
  exact this

set_option maxHeartbeats 600000 in
theorem within_walk (s t : ByteArray) (ok fits : Bool) (n : Nat) (hn : n ≤ 32) (same : Bool) (a b c d a' b' c' d' : Int) (w : World) (oA : Ok4 a b c d) (oB : Ok4 a' b' c' d')
    (h1 : ∀ w, Calls Tryz.prog 124 #[.string s] w fun e w' => e = .returned (.tuple #[.agg #[.int .u8 a, .int .u8 b, .int .u8 c, .int .u8 d], .int .i64 (n : Int), .bool ok]) ∧ Below w.heap.size w w')
    (h2 : ∀ w, Calls Tryz.prog 123 #[.string t] w fun e w' => e = .returned (.tuple #[.agg #[.int .u8 a', .int .u8 b', .int .u8 c', .int .u8 d'], .bool fits]) ∧ Below w.heap.size w w')
    (h5 : ∀ w, (binOp BinOp.eql 213 (.agg #[.int .u8 (mkZ (cnt n 0) a), .int .u8 (mkZ (cnt n 1) b), .int .u8 (mkZ (cnt n 2) c), .int .u8 (mkZ (cnt n 3) d)]) (.agg #[.int .u8 (mkZ (cnt n 0) a'), .int .u8 (mkZ (cnt n 1) b'), .int .u8 (mkZ (cnt n 2) c'), .int .u8 (mkZ (cnt n 3) d')])).run Tryz.prog w = .ok (.bool same) w) :
    Calls Tryz.prog 114 #[.string s, .string t] w fun e w' => e = .returned (.bool (ok && fits && same)) ∧ Below w.heap.size w w' := by
  have H1 : Hid _ := h1
  have H2 : Hid _ := h2
  have OA : Hid (Ok4 a b c d) := oA
  have OB : Hid (Ok4 a' b' c' d') := oB
  have H3 : Hid (∀ b1 b2 x0 x1 x2 x3 V, Hid (Ok4 x0 x1 x2 x3) → Hid (Wit w b1 b2 a b c d a' b' c' d' V) → Calls Tryz.prog 126 #[.agg #[.int .u8 x0, .int .u8 x1, .int .u8 x2, .int .u8 x3], .int .i64 (n : Int)] V fun e w' => e = .returned (.agg #[.int .u8 (mkZ (cnt n 0) x0), .int .u8 (mkZ (cnt n 1) x1), .int .u8 (mkZ (cnt n 2) x2), .int .u8 (mkZ (cnt n 3) x3)]) ∧ Hid (Wit w b1 b2 a b c d a' b' c' d' w') ∧ w'.cell? ⟨b2, 0, none⟩ = some (.int .u8 a') ∧ w'.cell? ⟨b2, 1, none⟩ = some (.int .u8 b') ∧ w'.cell? ⟨b2, 2, none⟩ = some (.int .u8 c') ∧ w'.cell? ⟨b2, 3, none⟩ = some (.int .u8 d')) := fun b1 b2 x0 x1 x2 x3 V ho hV => (firstBits_int n hn x0 x1 x2 x3 ho.out V).mono (fun e w' h => ⟨h.1, hV.out.below h.2, (cells4 (hV.out.below h.2).2.1).1⟩)
  clear h1 h2 hn oA oB
  go_enter Tryz.func114, Tryz.ntmps114
  go_wp2_with fail
  refine (H1.out _).mono ?_
  rintro e w1 ⟨rfl, hB1⟩
  have HB1 : Hid (Below w.heap.size w w1) := hB1
  clear hB1
  go_wp2_with fail
  refine (H2.out _).mono ?_
  rintro e w2 ⟨rfl, hB2⟩
  have r1 : w2.heap[w1.heap.size]? = some (.cells #[.int .u8 a, .int .u8 b, .int .u8 c, .int .u8 d] 213 (0, 0)) := (hB2.block w1.heap.size (by simp)).trans (heap_alloc_new w1 _)
  have hlt := lt_of_block r1
  have HB2 : Hid (Below w.heap.size w w2) := (HB1.out.alloc HB1.out.size _).trans (hB2.mono (by have := HB1.out.size; simp; omega))
  obtain ⟨o, ho⟩ : ∃ o, o = Obj.cells #[.int .u8 a', .int .u8 b', .int .u8 c', .int .u8 d'] 213 := ⟨_, rfl⟩
  have hW0 : Wit w w1.heap.size w2.heap.size a b c d a' b' c' d' (w2.alloc (.cells #[.int .u8 a', .int .u8 b', .int .u8 c', .int .u8 d'] 213)) := ⟨by rw [Below.heap_alloc _ _ _ hlt]; exact r1, heap_alloc_new w2 _, HB2.out.alloc HB2.out.size _⟩
  obtain ⟨⟨e0, e1, e2, e3⟩, _⟩ := cells4 hW0.1
  obtain ⟨⟨g0, g1, g2, g3⟩, _⟩ := cells4 hW0.2.1
  have HWa : Hid (Wit w w1.heap.size w2.heap.size a b c d a' b' c' d' (w2.alloc (.cells #[.int .u8 a', .int .u8 b', .int .u8 c', .int .u8 d'] 213))) := hW0
  have HWb : Hid (Wit w w1.heap.size w2.heap.size a b c d a' b' c' d' (w2.alloc (.cells #[.int .u8 a', .int .u8 b', .int .u8 c', .int .u8 d'] 213)).drew) := hW0.drew
  clear hB2 r1 ho hW0
  cases ok with
  | false =>
    clear h5 H3
    go_wp2
    go_region
    go_wp2
    all_goals (go_ret; exact ⟨rfl, HWb.out.2.2⟩)
  | true =>
    cases fits with
    | false =>
      clear h5 H3
      go_wp2
      go_region
      go_wp2
      all_goals (go_ret; exact ⟨rfl, HWb.out.2.2⟩)
    | true =>
      generalize mkZ (cnt n 0) = F0 at *
      generalize mkZ (cnt n 1) = F1 at *
      generalize mkZ (cnt n 2) = F2 at *
      generalize mkZ (cnt n 3) = F3 at *
      go_wp2
      go_region_with (go_at_call 126; refine (H3.out w1.heap.size w2.heap.size _ _ _ _ _ (by first | exact OA | exact OB) (by first | exact hS | exact HWb)).mono ?_; rintro e w3 ⟨rfl, hS, j0, j1, j2, j3⟩)
      all_goals (go_wp2)
      all_goals (go_ret; exact ⟨rfl, hS.out.2.2⟩)

end Go.Proofs.YtgoiefhhbgollaaGreatDoor
