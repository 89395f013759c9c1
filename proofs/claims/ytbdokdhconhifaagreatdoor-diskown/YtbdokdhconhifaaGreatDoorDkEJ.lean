/- One file of a disk: bytes put behind its end, its first bytes left, its bytes copied. -/
import Derived.Test.YtbdokdhconhifaaGreatDoorShelfGJ
import Derived.Test.YtbdokdhconhifaaGreatDoorCopyLJ
import Derived.Laws.CopyOwn
import Derived.Laws.CopyRow
import Derived.Deep.CutRange
namespace Go.Proofs.YtbdokdhconhifaaGreatDoor
open Go.RowKit Go.Shelf
set_option maxRecDepth 8000

theorem Tryz.infoU8 : (Tryz.prog.info? 5).map (fun i => (i.zero, i.size, i.bytes)) = some (some (.int .u8 0), 1, 1) := by kernel_rfl

/-- Grow: the same bytes, with room for so many more. -/
theorem grow_any (v : Value) (xs : List Int) (n : Nat) (w : World) (h : Owns w 0 v xs) (hb : xs.length + n ≤ 1000000000000) :
    Calls Tryz.prog 98 #[v, .int .i64 (n : Int)] w fun e w' => ∃ a c, e = .returned (.slice a xs.length c) ∧ xs.length + n ≤ c ∧ Owns w' 0 (.slice a xs.length c) xs ∧ Below w.heap.size w w' ∧ ∀ k, (Value.slice a xs.length c).ownBlock = some k → v.ownBlock = some k ∨ w.heap.size ≤ k := by
  obtain ⟨a, c, rfl, hlc, hc⟩ := own_shape h
  unfold maxLen at hc
  by_cases hroom : xs.length + n ≤ c
  · refine (Tryz.grow_room a xs.length c n w hlc (by omega) (by omega) hroom).mono ?_
    rintro e w' ⟨rfl, rfl⟩
    exact ⟨a, c, rfl, hroom, h, Below.refl _ _, fun k e => .inl e⟩
  · obtain ⟨i, hi, hz, hs, hbt⟩ := info_parts Tryz.infoU8
    obtain ⟨cs, hcl, hcs, hnil, htk⟩ : ∃ cs : List Value, cs.length = c ∧ (∀ b, a = some b → ∀ j u, cs[j]? = some u → w.cell? (b.add j) = some u) ∧ (a = none → c = 0) ∧ cs.take xs.length = xs.map (Value.int .u8) := by
      obtain ⟨h0, ⟨e, e0⟩ | ⟨g, cap, cur, e, _, h3, h4, h5, h6, h7⟩⟩ := h
      · have : xs = [] := List.eq_nil_of_length_eq_zero e0
        subst this
        obtain ⟨rfl, rfl⟩ : a = none ∧ c = 0 := by simpa using e
        exact ⟨[], rfl, fun b e => (by cases e), fun _ => rfl, rfl⟩
      · cases e
        refine ⟨cur.toList, by simpa using h6, fun b e j u hj => ?_, fun e => (by cases e), by simpa using h7⟩
        cases e
        rw [Addr.add_lit, Nat.zero_add, cell_of_row w g j _ _ _ h3, ← Array.getElem?_toList]
        exact hj
    refine (Any8.slices_Grow_grow Tryz.growB i (.int .u8 0) hi hz (by omega) a xs.length c n cs w hlc (by omega) (by rw [hbt]; omega) (by omega) (by rw [hs]; omega) hnil hcs).mono ?_
    rintro e w' ⟨h1, h2⟩
    rw [show Tryz.growB_ren.t 25 = 5 from rfl] at h1 h2
    subst h1
    subst h2
    have hg : xs.length + n ≤ grownCap w (xs.length + n) c 5 := grownCap_ge w _ _ _
    have hm : grownCap w (xs.length + n) c 5 ≤ maxLen := grownCap_le_maxLen w (xs.length + n) c 5 (by unfold maxLen; omega)
    have hsz : (cs.toArray ++ Builtin.zeroCells (Value.int .u8 0).cells (xs.length + n - c) ++ Builtin.zeroCells (Value.int .u8 0).cells (grownCap w (xs.length + n) c 5 - (xs.length + n))).size = grownCap w (xs.length + n) c 5 := by
      simp only [Array.size_append, size_zeroCells, List.size_toArray, hcl, Value.cells]
      simp
      omega
    refine ⟨_, _, rfl, hg, ⟨by simp, .inr ⟨w.heap.size, _, _, rfl, Nat.zero_le _, heap_alloc_new w.drew _, by omega, hm, by rw [hsz, Nat.mul_one], ?_⟩⟩, ?_, fun k e => ?_⟩
    · simp only [Array.toList_append, List.append_assoc, Nat.mul_one]
      rw [List.take_append_of_le_length (by rw [hcl]; exact hlc)]
      exact htk
    · exact (below_drewN (Below.refl _ _) 1).alloc (by simp) _
    · simp [Value.ownBlock] at e
      exact .inr (by omega)

theorem sees_someK {w : World} {v : Value} {xs : List Int} (h : Sees w v xs) (hx : xs ≠ []) : ∃ b off cap, v = .slice (some ⟨b, off, none⟩) xs.length cap ∧ xs.length ≤ cap ∧ cap ≤ maxLen ∧ b < w.heap.size ∧ ∀ i, i < xs.length → w.cell? ⟨b, off + i, none⟩ = some (.int .u8 (xs.getD i 0)) := by
  have hlt := h.lt hx
  obtain ⟨ao, cap, rfl, g1, g2, _, g3⟩ := h
  rcases g3 with g3 | ⟨b, off, rfl, g3⟩
  · exact absurd g3 hx
  · exact ⟨b, off, cap, rfl, g1, g2, hlt b rfl, g3⟩

/-- copy of bytes into a row's cells from a place on. -/
theorem copy_into {w : World} {g : Nat} {cur : Array Value} (hg : w.heap[g]? = some (.cells cur 5 (0, 0))) (off dc : Nat) {u : Value} {ys : List Int} (ty : TypeId) (hsee : Sees w u ys) (hfit : off + ys.length ≤ cur.size) :
    ∃ w', (Builtin.copy_ #[58, 58] ty #[.slice (some ⟨g, off, none⟩) ys.length dc, u]).run Tryz.prog w = .ok (.int .i64 ys.length) w' ∧ w'.heap[g]? = some (.cells (cur.toList.take off ++ (ys.map (Value.int .u8) ++ cur.toList.drop (off + ys.length))).toArray 5 (0, 0)) ∧ Kept w w' (· = g) := by
  obtain ⟨i0, hi, hz0, hz1, hz2⟩ := info_parts Tryz.infoU8
  have hsz : (Tryz.prog.info? 5).map (·.size) = some 1 := by rw [hi]; simp [hz1]
  by_cases hne : ys = []
  · subst hne
    obtain ⟨a, c, rfl, _⟩ := hsee
    have hrun := run_copy_none (P := Tryz.prog) w 58 58 ty 5 (some ⟨g, off, none⟩) a 0 dc 0 c Tryz.underlying58 hsz rfl
    refine ⟨w, hrun, ?_, Kept.refl _ _⟩
    rw [hg]
    simp
  · obtain ⟨b, of, cp, rfl, _, _, _, q3⟩ := sees_someK hsee hne
    have hmin : (ys.map (Value.int .u8)).length = Nat.min ys.length ys.length := by rw [List.length_map]; exact (Nat.min_self _).symm
    have hrun := run_copy_row (P := Tryz.prog) w 58 58 ty 5 g off ys.length dc ⟨b, of, none⟩ ys.length cp cur 5 (ys.map (Value.int .u8)) Tryz.underlying58 hsz hg hmin (news_at q3) (by rw [List.length_map]; omega) (ints_oneCell .u8 ys)
    rw [List.length_map] at hrun
    refine ⟨_, hrun, ?_, ⟨rfl, rfl, rfl, by simp [World.setRow], fun k _ hn => setRow_other w g k _ hn⟩⟩
    rw [setRow_heap w g cur _ _ _ hg, List.append_assoc]

theorem rows_ltK {w : World} {B : Nat} {v : Value} {xs : List Int} {k : Nat} (h : Owns w B v xs) (hk : v.ownBlock = some k) : k < w.heap.size := by
  rcases h.2 with ⟨rfl, _⟩ | ⟨g, cap, cur, rfl, _, h2, _⟩
  · simp [Value.ownBlock] at hk
  · simp [Value.ownBlock] at hk; subst hk; exact lt_of_block h2

/-- What a step does to a file. -/
structure FlTo (w : World) (m : FiM) (w' : World) (m' : FiM) (f' : FiD) : Prop where
  is : FileAt w' m' f'
  q : m'.q = m.q
  kept : Kept w w' (· ∈ m.blks)
  v : ∀ k, m'.v.ownBlock = some k → (m.v.ownBlock = some k ∨ w.heap.size ≤ k)

theorem fl_cells' {w : World} {m : FiM} {f : FiD} (h : FileAt w m f) : w.cell? ⟨m.q, 0, none⟩ = some (.string f.name) ∧ w.cell? ⟨m.q, 1, none⟩ = some m.v ∧ w.cell? ⟨m.q, 2, none⟩ = some (.int .i64 f.dur) :=
  ⟨cell_of_row w m.q 0 _ _ _ h.row, cell_of_row w m.q 1 _ _ _ h.row, cell_of_row w m.q 2 _ _ _ h.row⟩

theorem own_take {w : World} {a : Option Addr} {c : Nat} {xs : List Int} (h : Owns w 0 (.slice a xs.length c) xs) (n : Nat) (hn : n ≤ xs.length) : Owns w 0 (.slice a n c) (xs.take n) := by
  have hl : (xs.take n).length = n := by simp; omega
  obtain ⟨h0, ⟨e, e0⟩ | ⟨g, cap, cur, e, h2, h3, h4, h5, h6, h7⟩⟩ := h
  · obtain rfl : n = 0 := by omega
    obtain ⟨rfl, _, rfl⟩ : a = none ∧ xs.length = 0 ∧ c = 0 := by simpa using e
    exact ⟨by simp, .inl ⟨rfl, by simp⟩⟩
  · cases e
    refine ⟨by simp, .inr ⟨g, c, cur, by rw [hl], h2, h3, by omega, h5, h6, ?_⟩⟩
    rw [hl, List.map_take, ← h7]
    simp only [Nat.mul_one, List.take_take]
    congr 1
    omega

theorem fcut_any {w : World} {m : FiM} {f : FiD} (h : FileAt w m f) (hqv : ∀ k, m.v.ownBlock = some k → k ≠ m.q) (n : Nat) (hn : n ≤ f.bytes.length) :
    Calls Tryz.prog 99 #[.pointer (some ⟨m.q, 0, none⟩), .int .i64 n] w fun e w' => e = .returned (.tuple #[]) ∧ ∃ v', FlTo w m w' ⟨m.q, v'⟩ ⟨f.name, f.bytes.take n, n⟩ ∧ v'.ownBlock = m.v.ownBlock := by
  obtain ⟨c0, c1, c2⟩ := fl_cells' h
  have hl := lt_of_block h.row
  obtain ⟨a, c, hv, hlc, hc⟩ := own_shape h.own
  unfold maxLen at hc
  have f1 : w.frozen? ⟨m.q, 1, none⟩ = false := frozen_of_row w m.q 1 _ _ h.row
  have f2 : w.frozen? ⟨m.q, 2, none⟩ = false := frozen_of_row w m.q 2 _ _ h.row
  have HF : Hid (FileAt w m f) := h
  have HQ : Hid _ := hqv
  rw [hv] at c1
  have HV : Hid _ := hv
  clear h hqv hv
  go_enter Tryz.func99, Tryz.ntmps99
  go_wp2_with fail
  go_end0
  refine ⟨rfl, .slice a n c, ?_, ?_⟩
  · have hk : Kept w ((w.setCell ⟨m.q, 1, none⟩ (.slice a n c)).setCell ⟨m.q, 2, none⟩ (.int .i64 n)) (fun k => k = m.q) := Kept.setCell (Kept.setCell (Kept.refl _ (fun k => k = m.q)) ⟨m.q, 1, none⟩ _ (fun _ => rfl)) ⟨m.q, 2, none⟩ _ (fun _ => rfl)
    refine ⟨⟨heap_setK _ (heap_setK _ HF.out.row), ?_⟩, rfl, hk.mono (fun k _ e => by rw [e]; exact List.mem_cons_self ..), fun k e => .inl ?_⟩
    · have h1 := HF.out.own
      rw [HV.out] at h1
      exact (own_take h1 n hn).kept hk (fun k e => HQ.out k (by rw [HV.out]; cases a <;> exact e))
    · rw [HV.out]; cases a <;> exact e
  · rw [HV.out]; cases a <;> rfl

/-- How many bytes a loss of power leaves of a file. -/
def leftN (f : FiD) (keep : Int) : Nat := (f.dur + min (max keep 0) (f.bytes.length - f.dur)).toNat

theorem leftN_le (f : FiD) (keep : Int) (h0 : 0 ≤ f.dur) (h1 : f.dur ≤ f.bytes.length) : leftN f keep ≤ f.bytes.length ∧ (leftN f keep : Int) = f.dur + min (max keep 0) (f.bytes.length - f.dur) := by
  unfold leftN
  omega

set_option maxHeartbeats 400000 in
theorem lose_any {w : World} {m : FiM} {f : FiD} (h : FileAt w m f) (hqv : ∀ k, m.v.ownBlock = some k → k ≠ m.q) (keep : Int) (h0 : 0 ≤ f.dur) (h1 : f.dur ≤ f.bytes.length) (hsm : f.bytes.length ≤ 1000000000000) :
    Calls Tryz.prog 72 #[.pointer (some ⟨m.q, 0, none⟩), .int .i64 keep] w fun e w' => e = .returned (.tuple #[]) ∧ ∃ v', FlTo w m w' ⟨m.q, v'⟩ ⟨f.name, f.bytes.take (leftN f keep), leftN f keep⟩ ∧ v'.ownBlock = m.v.ownBlock := by
  obtain ⟨hle, hlf⟩ := leftN_le f keep h0 h1
  obtain ⟨c0, c1, c2⟩ := fl_cells' h
  have hl := lt_of_block h.row
  obtain ⟨a, c, hv, hlc, hc⟩ := own_shape h.own
  unfold maxLen at hc
  have HC : Hid (∀ j, ∀ V, V = w.drewN j → Calls Tryz.prog 99 #[.pointer (some ⟨m.q, 0, none⟩), .int .i64 (leftN f keep)] V fun e w' => e = .returned (.tuple #[]) ∧ ∃ v', FlTo w m w' ⟨m.q, v'⟩ ⟨f.name, f.bytes.take (leftN f keep), leftN f keep⟩ ∧ v'.ownBlock = m.v.ownBlock) := fun j V hV => by
    have hb : Below w.heap.size w V := by rw [hV]; exact below_drewN (Below.refl _ _) j
    refine (fcut_any (h.kept (Below.kept hb) (fun e => by omega) (fun k e e' => by
      have := rows_ltK h.own e
      omega)) hqv (leftN f keep) hle).mono ?_
    rintro e w' ⟨rfl, v', ht, hv'⟩
    refine ⟨rfl, v', ⟨ht.is, ht.q, ?_, fun k e => .inl (by rw [← hv']; exact e)⟩, hv'⟩
    exact (Below.kept hb).trans' ht.kept (fun k hk e => by omega) (fun k _ e => e)
  rw [hv] at c1
  clear h hqv hv
  generalize leftN f keep = n at *
  go_enter Tryz.func72, Tryz.ntmps72
  go_wp2_with fail
  go_quiet (fail)
  try rw [show IntKind.i64.wrap ((f.bytes.length : Int) - f.dur) = f.bytes.length - f.dur by rw [IntKind.wrap_i64]; omega]
  go_wp2_with fail
  rw [← hlf]
  refine Calls.mono (HC.out _ _ rfl) ?_
  rintro e w1 ⟨rfl, hw1⟩
  have HW : Hid _ := hw1
  clear hw1 HC
  go_wp2_with fail
  go_end0
  exact ⟨rfl, HW.out⟩

set_option maxHeartbeats 400000 in
theorem copied_any {w : World} {m : FiM} {f : FiD} (h : FileAt w m f) (hsm : f.bytes.length ≤ 1000000000000) :
    Calls Tryz.prog 35 #[.pointer (some ⟨m.q, 0, none⟩)] w fun e w' => e = .returned (.slice (some ⟨w.heap.size, 0, none⟩) f.bytes.length f.bytes.length) ∧ Owns w' w.heap.size (.slice (some ⟨w.heap.size, 0, none⟩) f.bytes.length f.bytes.length) f.bytes ∧ Below w.heap.size w w' := by
  obtain ⟨c0, c1, c2⟩ := fl_cells' h
  have hl := lt_of_block h.row
  obtain ⟨a, c, hv, hlc, hc⟩ := own_shape h.own
  unfold maxLen at hc
  obtain ⟨i0, hi, hz0, hz1, hz2⟩ := info_parts Tryz.infoU8
  have HS : Hid (Sees w (.slice a f.bytes.length c) f.bytes) := by rw [← hv]; exact Sees.own h.own
  rw [hv] at c1
  clear h hv
  obtain ⟨xs, hxs⟩ : ∃ xs, xs = f.bytes := ⟨_, rfl⟩
  rw [← hxs] at HS c1 hlc hsm ⊢
  clear hxs
  go_enter Tryz.func35, Tryz.ntmps35
  go_upto_region 2 with (at_make; refine wpList_make_full _ rfl _ _ 58 rfl w.heap.size 5 i0 (.int .u8 0) 1 Tryz.underlying58 hi hz0 hz1 .i64 .i64 _ _ xs.length rfl rfl (by omega) (by omega) (by rw [hz2]; omega) (by unfold maxLen; omega) (Nat.le_refl _) ?_)
  intro w2 hown hgrow
  have hb2 : Below w.heap.size w w2 := (Below.refl _ _).grown hgrow (Nat.le_refl _) (fun k hk => by simp at hk)
  obtain ⟨cur, hg, hsz⟩ : ∃ cur : Array Value, w2.heap[w.heap.size]? = some (.cells cur 5 (0, 0)) ∧ cur.size = xs.length := by
    obtain ⟨_, ⟨e, _⟩ | ⟨g, cap, cur, e, _, h3, _, _, h6, _⟩⟩ := hown
    · cases e
    · simp at e
      obtain ⟨rfl, rfl⟩ := e
      exact ⟨cur, h3, by simpa using h6⟩
  obtain ⟨w3, hr3, hg3, hk3⟩ := copy_into hg 0 xs.length 3 (HS.out.below hb2 (Nat.le_refl _)) (by omega)
  have d1 := cell_later c1 hb2 (Nat.le_refl _)
  have hl2 : m.q < w2.heap.size := Nat.lt_of_lt_of_le hl hb2.size
  have HR : Hid (Owns w3 w.heap.size (.slice (some ⟨w.heap.size, 0, none⟩) xs.length xs.length) xs ∧ Below w.heap.size w w3) := by
    refine ⟨⟨by simp, .inr ⟨w.heap.size, xs.length, _, rfl, Nat.le_refl _, hg3, Nat.le_refl _, by unfold maxLen; omega, ?_, ?_⟩⟩, hb2.trans (hk3.below hb2.size (fun k e => by omega))⟩
    · simp; omega
    · simp
  clear hown hgrow hg hg3 hk3 HS hb2 hi hz0 hz1 hz2
  go_wp2
  go_ret
  exact ⟨rfl, HR.out⟩

theorem Sees.keptN {w w' : World} {S : Nat → Prop} {v : Value} {xs : List Int} (h : Sees w v xs) (hk : Kept w w' S) (hn : xs ≠ [] → ∀ k, v.ownBlock = some k → ¬ S k) : Sees w' v xs := by
  by_cases hx : xs = []
  · subst hx
    obtain ⟨ao, cap, rfl, h1, h2, h0, _⟩ := h
    exact ⟨ao, cap, rfl, h1, h2, h0, .inl rfl⟩
  · exact h.kept hk (hn hx)

set_option maxHeartbeats 1000000 in
theorem fappend_any {w : World} {m : FiM} {f : FiD} (h : FileAt w m f) (hqv : ∀ k, m.v.ownBlock = some k → k ≠ m.q) (u : Value) (ys : List Int) (hu : Sees w u ys) (hap : ys ≠ [] → ∀ k, u.ownBlock = some k → k ∉ m.blks) (hb : f.bytes.length + ys.length ≤ 1000000000000) :
    Calls Tryz.prog 69 #[.pointer (some ⟨m.q, 0, none⟩), u] w fun e w' => e = .returned (.tuple #[]) ∧ ∃ v', FlTo w m w' ⟨m.q, v'⟩ ⟨f.name, f.bytes ++ ys, f.dur⟩ := by
  obtain ⟨c0, c1, c2⟩ := fl_cells' h
  have hl := lt_of_block h.row
  obtain ⟨a, c, hv, hlc, hc⟩ := own_shape h.own
  obtain ⟨ua, uc, huv, hulc, hucm, _⟩ := id hu
  unfold maxLen at hc hucm
  have HG : Hid _ := grow_any m.v f.bytes ys.length w h.own hb
  have HF : Hid (FileAt w m f ∧ (∀ k, m.v.ownBlock = some k → k ≠ m.q) ∧ Sees w u ys ∧ (ys ≠ [] → ∀ k, u.ownBlock = some k → k ∉ m.blks)) := ⟨h, hqv, hu, hap⟩
  rw [hv] at c1 HG
  have HV : Hid _ := hv
  subst huv
  clear h hqv hv hu hap
  obtain ⟨L, hL⟩ : ∃ L, L = f.bytes.length := ⟨_, rfl⟩
  obtain ⟨N, hN⟩ : ∃ N, N = ys.length := ⟨_, rfl⟩
  rw [← hL] at c1 hlc
  rw [← hL, ← hN] at hb
  rw [← hL, ← hN] at HG
  rw [← hN] at hulc HF ⊢
  have HLN : Hid (L = f.bytes.length ∧ N = ys.length) := ⟨hL, hN⟩
  rw [← hL] at HV
  clear hL hN
  go_enter Tryz.func69, Tryz.ntmps69
  go_wp2_with fail
  refine Calls.mono HG.out ?_
  rintro e w1 ⟨a1, cc, rfl, hcc, hown1, hbel, hblk⟩
  have hq1 : w1.heap[m.q]? = some (.cells (flQ f.name m.v f.dur) 122 (0, 0)) := (Below.kept hbel).heap HF.out.1.row (fun e => by omega)
  have hccm : cc ≤ 9223372036854775807 := by
    obtain ⟨_, cc2, e, _, h⟩ := own_shape hown1
    simp at e
    unfold maxLen at h
    omega
  have hsee1 : Sees w1 (.slice ua N uc) ys := HF.out.2.2.1.below hbel (Nat.le_refl _)
  have hl1 : m.q < w1.heap.size := Nat.lt_of_lt_of_le hl hbel.size
  have f1 : w1.frozen? ⟨m.q, 1, none⟩ = false := frozen_of_row w1 m.q 1 _ _ hq1
  have d1 : w1.cell? ⟨m.q, 1, none⟩ = some m.v := cell_of_row w1 m.q 1 _ _ _ hq1
  rw [HV.out] at d1
  have H1 : Hid (w1.heap[m.q]? = some (.cells (flQ f.name m.v f.dur) 122 (0, 0)) ∧ Below w.heap.size w w1) := ⟨hq1, hbel⟩
  clear hq1 hbel HG c0 c1 c2
  rcases hown1 with ⟨h0, ⟨e, e0⟩ | ⟨g, cap, cur, e, _, h3, h4, h5, h6, h7⟩⟩
  · obtain ⟨rfl, eL, rfl⟩ : a1 = none ∧ L = 0 ∧ cc = 0 := by simpa using e
    obtain rfl : N = 0 := by omega
    subst eL
    obtain ⟨i0, hi, hz0, hz1, hz2⟩ := info_parts Tryz.infoU8
    have hsz : (Tryz.prog.info? 5).map (·.size) = some 1 := by rw [hi]; simp [hz1]
    have hcp := run_copy_none (P := Tryz.prog) (w1.setCell ⟨m.q, 1, none⟩ (.slice none 0 0)) 58 58 3 5 none ua 0 0 0 uc Tryz.underlying58 hsz rfl
    clear hi hz0 hz1 hz2 hsz hsee1
    go_wp2
    go_end0
    have eb : f.bytes = [] := List.eq_nil_of_length_eq_zero (by have := HLN.out.1; omega)
    have ey : ys = [] := List.eq_nil_of_length_eq_zero (by have := HLN.out.2; omega)
    have hk : Kept w1 (w1.setCell ⟨m.q, 1, none⟩ (.slice none 0 0)) (fun k => k = m.q) := Kept.setCell (Kept.refl _ (fun k => k = m.q)) ⟨m.q, 1, none⟩ _ (fun _ => rfl)
    refine ⟨rfl, .slice none 0 0, ⟨heap_setK _ H1.out.1, ?_⟩, rfl, (Below.kept H1.out.2).trans' hk (fun k hk e => by omega) (fun k _ e => by rw [e]; exact List.mem_cons_self ..), fun k e => by cases e⟩
    rw [eb, ey]
    exact ⟨by simp, .inl ⟨rfl, rfl⟩⟩
  · obtain ⟨rfl, hLL, rfl⟩ : a1 = some ⟨g, 0, none⟩ ∧ L = f.bytes.length ∧ cc = cap := by simpa using e
    clear hLL e
    rw [← HV.out] at hblk
    have hgq : g ≠ m.q := by
      rcases hblk g rfl with e | e
      · exact HF.out.2.1 g e
      · omega
    obtain ⟨W2, eW2⟩ : ∃ W2, W2 = w1.setCell ⟨m.q, 1, none⟩ (.slice (some ⟨g, 0, none⟩) (L + N) cc) := ⟨_, rfl⟩
    have hk2 : Kept w1 W2 (fun k => k = m.q) := by rw [eW2]; exact Kept.setCell (Kept.refl _ (fun k => k = m.q)) ⟨m.q, 1, none⟩ _ (fun _ => rfl)
    have hg2 : W2.heap[g]? = some (.cells cur 5 (0, 0)) := hk2.heap h3 hgq
    have hq2 : W2.heap[m.q]? = some (.cells (flQ f.name (.slice (some ⟨g, 0, none⟩) (L + N) cc) f.dur) 122 (0, 0)) := by rw [eW2]; exact heap_setK _ H1.out.1
    have hs2 : Sees W2 (.slice ua N uc) ys := Sees.keptN hsee1 hk2 (fun hy k e e' => HF.out.2.2.2 hy k e (by rw [e']; exact List.mem_cons_self ..))
    obtain ⟨w3, hr3, hg3, hk3⟩ := copy_into hg2 L (cc - L) 3 hs2 (by have := HLN.out; rw [h6]; omega)
    rw [← HLN.out.2] at hr3
    have HR : Hid (∀ w3 : World, w3.heap[g]? = some (.cells (cur.toList.take L ++ (ys.map (Value.int .u8) ++ cur.toList.drop (L + ys.length))).toArray 5 (0, 0)) → Kept W2 w3 (· = g) → ∃ v', FlTo w m w3 ⟨m.q, v'⟩ ⟨f.name, f.bytes ++ ys, f.dur⟩) := fun w3 hg3 hk3 => by
      refine ⟨.slice (some ⟨g, 0, none⟩) (L + N) cc, ⟨hk3.heap hq2 (fun e => hgq e.symm), ?_⟩, rfl, ?_, fun k e => hblk k e⟩
      · have hll : (f.bytes ++ ys).length = L + N := by rw [List.length_append, ← HLN.out.1, ← HLN.out.2]
        refine ⟨by simp, .inr ⟨g, cc, _, by rw [hll], Nat.zero_le _, hg3, by rw [hll]; exact hcc, h5, ?_, ?_⟩⟩
        · have := HLN.out
          rw [Nat.mul_one] at h6 ⊢
          simp
          omega
        · have e1 : cur.toList.take L = f.bytes.map (Value.int .u8) := by rw [← h7]; simp [HLN.out.1]
          rw [hll, e1, Nat.mul_one, List.map_append, ← List.append_assoc, List.take_append_of_le_length (by simp [← HLN.out.1, ← HLN.out.2])]
          rw [List.take_of_length_le (by simp [← HLN.out.1, ← HLN.out.2])]
      · refine (Below.kept H1.out.2).trans' (hk2.trans' (U := fun k => k = m.q ∨ k = g) hk3 (fun k _ e => .inl e) (fun k _ e => .inr e)) (fun k hk e => by omega) (fun k hk e => ?_)
        rcases e with e | e
        · rw [e]; exact List.mem_cons_self ..
        · rcases hblk k (by rw [e]; rfl) with e | e
          · exact List.mem_cons_of_mem _ (by rw [e]; simp)
          · omega
    have fq : W2.cell? ⟨m.q, 1, none⟩ = some (.slice (some ⟨g, 0, none⟩) (L + N) cc) := cell_of_row W2 m.q 1 _ _ _ hq2
    have hlw : m.q < W2.heap.size := Nat.lt_of_lt_of_le hl1 hk2.size
    have HE : Hid _ := eW2
    have HR3 : Hid _ := HR.out w3 hg3 hk3
    by_cases hLc : L = cc
    · obtain rfl : N = 0 := by omega
      have ey : ys = [] := List.eq_nil_of_length_eq_zero (by have := HLN.out.2; omega)
      have HR0 : Hid _ := HR.out W2 (by rw [hg2, ey]; simp) (Kept.refl _ _)
      obtain ⟨i0, hi, hz0, hz1, hz2⟩ := info_parts Tryz.infoU8
      have hsz : (Tryz.prog.info? 5).map (·.size) = some 1 := by rw [hi]; simp [hz1]
      have hcp := run_copy_none (P := Tryz.prog) W2 58 58 3 5 (some ⟨g, 0, none⟩) ua 0 0 0 uc Tryz.underlying58 hsz rfl
      subst hLc
      clear hk2 hg2 hq2 hs2 hg3 hk3 h3 h4 h5 h6 h7 h0 hblk eW2 hsee1 hr3 hi hz0 hz1 hz2 hsz HR HR3
      rw [Nat.add_zero] at HE fq
      go_upto_region 2 with fail
      rw [← HE.out]
      go_wp2
      go_end0
      exact ⟨rfl, HR0.out⟩
    · have hLd : L < cc := by omega
      clear hk2 hg2 hq2 hs2 hg3 hk3 h3 h4 h5 h6 h7 h0 hblk eW2 hsee1 HR
      go_upto_region 2 with fail
      rw [← HE.out]
      go_wp2
      go_end0
      exact ⟨rfl, HR3.out⟩
end Go.Proofs.YtbdokdhconhifaaGreatDoor
