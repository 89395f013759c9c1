/- Put of a full ring of transactions. -/
import Derived.Test.YteindmdggpahfaaCbC
namespace Go.Proofs.Yteindmdggpahfaa
open Go.RowKit
set_option maxRecDepth 8000
set_option linter.unusedSimpArgs false

set_option maxHeartbeats 4000000 in
/-- Where it is full. -/
theorem putZ_full {T : TypeId} {N : Nat} {w : World} {p m : Nat} {xs : List (List Value)} (h : IsRz T N w p m xs) (t0 t1 t2 t3 t4 : Int) (x0 : Int) (x1 : ByteArray) (x2 : Option Addr) (x3 x4 : Nat) (x5 : Option Addr) (x6 x7 : Nat) (x8 : Int) (x9 x10 : Bool) (x11 x12 : Int) (x13 : Option Addr) (x14 x15 : Nat) (x16 : Option Addr) (x17 x18 : Nat) (hm0 : 0 < m) (hfull : xs.length = m) :
    Calls Try.prog 19 #[.pointer (some ⟨p, 0, none⟩), .agg #[.int .u32 t0, .int .u32 t1, .int .i8 t2, .int .u32 t3, .int .i64 t4, .int .i8 x0, .string x1, .slice x2 x3 x4, .slice x5 x6 x7, .int .i32 x8, .bool x9, .bool x10, .int .i64 x11, .int .i32 x12, .slice x13 x14 x15, .slice x16 x17 x18]] w fun e w' => e = .returned (.tuple #[]) ∧ IsRz T N w' p m (xs.drop 1 ++ [[.int .u32 t0, .int .u32 t1, .int .i8 t2, .int .u32 t3, .int .i64 t4, .int .i8 x0, .string x1, .slice x2 x3 x4, .slice x5 x6 x7, .int .i32 x8, .bool x9, .bool x10, .int .i64 x11, .int .i32 x12, .slice x13 x14 x15, .slice x16 x17 x18]]) ∧ Kept w w' (· = p) := by
  obtain ⟨hN, first, f, hr, hf0⟩ := h
  have h65 := hf0.most
  have hfl0 := hf0.first_lt
  have hf := hf0.shed hm0 hfull
  have hys : (xs.drop 1).length = m - 1 := by rw [List.length_drop]; omega
  obtain ⟨V, hV⟩ : ∃ V, V = w.alloc (.cells #[.int .u32 t0, .int .u32 t1, .int .i8 t2, .int .u32 t3, .int .i64 t4, .int .i8 x0, .string x1, .slice x2 x3 x4, .slice x5 x6 x7, .int .i32 x8, .bool x9, .bool x10, .int .i64 x11, .int .i32 x12, .slice x13 x14 x15, .slice x16 x17 x18] 43) := ⟨_, rfl⟩
  have hlw := hr.lt
  have HV : Hid (V.rowIs p T N f ∧ V.heap[w.heap.size]? = some (.cells #[.int .u32 t0, .int .u32 t1, .int .i8 t2, .int .u32 t3, .int .i64 t4, .int .i8 x0, .string x1, .slice x2 x3 x4, .slice x5 x6 x7, .int .i32 x8, .bool x9, .bool x10, .int .i64 x11, .int .i32 x12, .slice x13 x14 x15, .slice x16 x17 x18] 43 (0, 0)) ∧ Kept w V (· = p)) := by
    rw [hV]
    exact ⟨hr.of_block (Below.heap_alloc _ _ _ hlw), heap_alloc_new w _, (Kept.refl _ _).alloc _⟩
  have c64 := HV.out.1.cell (i := 1024) (by omega)
  have c66 := HV.out.1.cell (i := 1026) (by omega)
  rw [hf0.cm] at c64
  rw [hf0.cc, hfull] at c66
  have HC6 : Hid (f 1026 = .int .i64 m) := by have e9 := hf0.cc; rw [hfull] at e9; exact e9
  have HRn : Hid (∀ W : World, W.heap = V.heap → Calls Try.prog 28 #[.pointer (some ⟨p, 0, none⟩), .int .i64 1] W fun e w' => e = .returned (.int .i64 ((first + 1) % m : Nat)) ∧ ∃ n, w' = W.drewN n) := fun W hW =>
    roundZ_any (i := 1) hN (HV.out.1.of_block (by rw [hW])) hf0.cm hf0.cf (by omega) (by omega) (by omega) (by omega)
  generalize xs.drop 1 = ys at *
  have hb : (first + 1) % m < m := Nat.mod_lt _ hm0
  generalize (first + 1) % m = first1 at *
  obtain ⟨n, hn⟩ : ∃ n, m = n + 1 := ⟨m - 1, by omega⟩
  have hyl : ys.length = n := by omega
  have hroom : ys.length < m := by omega
  have e1 : ((xs.length : Int) - 1) = (n : Int) := by omega
  rw [e1] at hf
  obtain ⟨f1, hf1⟩ : ∃ f1 : Nat → Value, f1 = fun j => if j = 1026 then .int .i64 (n : Int) else if j = 1025 then .int .i64 (first1 : Int) else f j := ⟨_, rfl⟩
  rw [← hf1] at hf
  obtain ⟨q, hqe⟩ : ∃ q, q = (first1 + n) % m := ⟨_, rfl⟩
  have hq : q < 64 := by rw [hqe]; exact Nat.lt_of_lt_of_le (Nat.mod_lt _ (by omega)) h65
  have hq0 : (0 : Int) ≤ (q : Int) := by omega
  have hq1 : (q : Int) < 64 := by omega
  have hp := hf.put hroom [.int .u32 t0, .int .u32 t1, .int .i8 t2, .int .u32 t3, .int .i64 t4, .int .i8 x0, .string x1, .slice x2 x3 x4, .slice x5 x6 x7, .int .i32 x8, .bool x9, .bool x10, .int .i64 x11, .int .i32 x12, .slice x13 x14 x15, .slice x16 x17 x18] (fun u hu => by
    simp only [List.mem_cons, List.not_mem_nil, or_false] at hu
    rcases hu with rfl | rfl | rfl | rfl | rfl | rfl | rfl | rfl | rfl | rfl | rfl | rfl | rfl | rfl | rfl | rfl <;> rfl)
  rw [hyl, ← hqe] at hp
  have HP : Hid _ := hp
  have HQ : Hid (q = (first1 + n) % m) := hqe
  have HF1 : Hid (f1 1024 = .int .i64 m ∧ f1 1025 = .int .i64 first1 ∧ f1 1026 = .int .i64 n ∧ first1 ≤ 64) := ⟨hf.cm, hf.cf, by rw [hf.cc, hyl], by omega⟩
  have HFF : Hid (f1 = fun j => if j = 1026 then .int .i64 (n : Int) else if j = 1025 then .int .i64 (first1 : Int) else f j) := hf1
  have hl := HV.out.1.lt
  have hbx := lt_of_block HV.out.2.1
  have hmn : Hid (m = n + 1) := hn
  have hn63 : n ≤ 63 := by omega
  have hmm : ¬ m = 0 := by omega
  have HE : Hid _ := hV
  clear hr hf hf0 hp hqe hf1 hyl hroom e1 hfull hys hfl0 hn hV
  go_enter Try.func19, Try.ntmps19
  go_upto_region 1 with fail
  rw [← HE.out]
  clear HE
  go_wp2_with fail
  go_quiet (fail)
  have HRm : Hid (Calls Try.prog 28 #[.pointer (some ⟨p, 0, none⟩), .int .i64 1] (V.drewN nq) fun e w' => e = .returned (.int .i64 first1) ∧ w'.frozen? ⟨p, 1025, none⟩ = false ∧ (∃ y, w'.cell? ⟨p, 1025, none⟩ = some y) ∧ (w'.setCell ⟨p, 1025, none⟩ (.int .i64 first1)).cell? ⟨p, 1026, none⟩ = some (.int .i64 m) ∧ (w'.setCell ⟨p, 1025, none⟩ (.int .i64 first1)).frozen? ⟨p, 1026, none⟩ = false ∧ p < w'.heap.size ∧ Hid (w'.rowIs p T N f ∧ w'.heap[w.heap.size]? = some (.cells #[.int .u32 t0, .int .u32 t1, .int .i8 t2, .int .u32 t3, .int .i64 t4, .int .i8 x0, .string x1, .slice x2 x3 x4, .slice x5 x6 x7, .int .i32 x8, .bool x9, .bool x10, .int .i64 x11, .int .i32 x12, .slice x13 x14 x15, .slice x16 x17 x18] 43 (0, 0)) ∧ Kept w w' (· = p))) := by
    refine Calls.mono (HRn.out (V.drewN nq) rfl) ?_
    rintro e w3 ⟨rfl, n3, rfl⟩
    have hrw : ((V.drewN nq).drewN n3).rowIs p T N f := HV.out.1
    have hset := hrw.set 1025 (.int .i64 first1)
    refine ⟨rfl, hrw.frozen _, ⟨_, hrw.cell (by omega)⟩, ?_, hset.frozen _, hrw.lt, hrw, HV.out.2.1, (HV.out.2.2.drewN _).drewN _⟩
    rw [hset.cell (i := 1026) (by omega), if_neg (by omega), HC6.out]
  clear HRn HV c64
  go_wp2_with fail
  go_at_call 28
  refine Calls.mono HRm.out ?_
  rintro e w2 ⟨rfl, y65, ⟨y, z65⟩, c67, c68, hl2, H2⟩
  clear c66
  have e1 : (m : Int) - 1 = (n : Int) := by have := hmn.out; omega
  have HE : Hid _ := e1
  clear e1
  obtain ⟨w1, hw1⟩ : ∃ w1, w1 = (w2.setCell ⟨p, 1025, none⟩ (.int .i64 first1)).setCell ⟨p, 1026, none⟩ (.int .i64 ((m : Int) - 1)) := ⟨_, rfl⟩
  have HW : Hid (w1.rowIs p T N f1 ∧ w1.heap[w.heap.size]? = some (.cells #[.int .u32 t0, .int .u32 t1, .int .i8 t2, .int .u32 t3, .int .i64 t4, .int .i8 x0, .string x1, .slice x2 x3 x4, .slice x5 x6 x7, .int .i32 x8, .bool x9, .bool x10, .int .i64 x11, .int .i32 x12, .slice x13 x14 x15, .slice x16 x17 x18] 43 (0, 0)) ∧ Kept w w1 (· = p)) := by
    rw [hw1, HFF.out, HE.out]
    have kk : Kept w2 ((w2.setCell ⟨p, 1025, none⟩ (.int .i64 first1)).setCell ⟨p, 1026, none⟩ (.int .i64 (n : Int))) (· = p) := ((Kept.refl w2 (fun k => k = p)).setCell ⟨p, 1025, none⟩ _ (fun _ => rfl)).setCell ⟨p, 1026, none⟩ _ (fun _ => rfl)
    exact ⟨(World.rowIs.set (H2.out.1.set 1025 _) 1026 _), kk.heap H2.out.2.1 (fun e => by omega), Kept.trans H2.out.2.2 kk (fun _ _ e => e)⟩
  have hl1 : p < w1.heap.size := World.rowIs.lt HW.out.1
  have hb1 : w.heap.size < w1.heap.size := lt_of_block HW.out.2.1
  have HW1 : Hid _ := hw1
  clear hw1
  go_upto_region 5 with fail
  rw [← HW1.out]
  clear HW1 HRm H2 c67 c68 y65 z65 hl2 hl hbx
  have HR2 : Hid (Calls Try.prog 28 #[.pointer (some ⟨p, 0, none⟩), .int .i64 n] w1.drew fun e w' => e = .returned (.int .i64 q) ∧ PuM w.heap.size p n (.int .u32 t0) (.int .u32 t1) (.int .i8 t2) (.int .u32 t3) (.int .i64 t4) (.int .i8 x0) (.string x1) (.slice x2 x3 x4) (.slice x5 x6 x7) (.int .i32 x8) (.bool x9) (.bool x10) (.int .i64 x11) (.int .i32 x12) (.slice x13 x14 x15) (.slice x16 x17 x18) w' ∧ PuM w.heap.size p n (.int .u32 t0) (.int .u32 t1) (.int .i8 t2) (.int .u32 t3) (.int .i64 t4) (.int .i8 x0) (.string x1) (.slice x2 x3 x4) (.slice x5 x6 x7) (.int .i32 x8) (.bool x9) (.bool x10) (.int .i64 x11) (.int .i32 x12) (.slice x13 x14 x15) (.slice x16 x17 x18) (w16 w' p (q * 16) (.int .u32 t0) (.int .u32 t1) (.int .i8 t2) (.int .u32 t3) (.int .i64 t4) (.int .i8 x0) (.string x1) (.slice x2 x3 x4) (.slice x5 x6 x7) (.int .i32 x8) (.bool x9) (.bool x10) (.int .i64 x11) (.int .i32 x12) (.slice x13 x14 x15) (.slice x16 x17 x18)) ∧ (w16 w' p (q * 16) (.int .u32 t0) (.int .u32 t1) (.int .i8 t2) (.int .u32 t3) (.int .i64 t4) (.int .i8 x0) (.string x1) (.slice x2 x3 x4) (.slice x5 x6 x7) (.int .i32 x8) (.bool x9) (.bool x10) (.int .i64 x11) (.int .i32 x12) (.slice x13 x14 x15) (.slice x16 x17 x18)).frozen? ⟨p, 1026, none⟩ = false ∧ (∃ u, w'.cell? ⟨p, q * 16, none⟩ = some u) ∧ w'.frozen? ⟨p, q * 16, none⟩ = false ∧ (∃ u, w'.cell? ⟨p, q * 16 + 1, none⟩ = some u) ∧ w'.frozen? ⟨p, q * 16 + 1, none⟩ = false ∧ (∃ u, w'.cell? ⟨p, q * 16 + 2, none⟩ = some u) ∧ w'.frozen? ⟨p, q * 16 + 2, none⟩ = false ∧ (∃ u, w'.cell? ⟨p, q * 16 + 3, none⟩ = some u) ∧ w'.frozen? ⟨p, q * 16 + 3, none⟩ = false ∧ (∃ u, w'.cell? ⟨p, q * 16 + 4, none⟩ = some u) ∧ w'.frozen? ⟨p, q * 16 + 4, none⟩ = false ∧ (∃ u, w'.cell? ⟨p, q * 16 + 5, none⟩ = some u) ∧ w'.frozen? ⟨p, q * 16 + 5, none⟩ = false ∧ (∃ u, w'.cell? ⟨p, q * 16 + 6, none⟩ = some u) ∧ w'.frozen? ⟨p, q * 16 + 6, none⟩ = false ∧ (∃ u, w'.cell? ⟨p, q * 16 + 7, none⟩ = some u) ∧ w'.frozen? ⟨p, q * 16 + 7, none⟩ = false ∧ (∃ u, w'.cell? ⟨p, q * 16 + 8, none⟩ = some u) ∧ w'.frozen? ⟨p, q * 16 + 8, none⟩ = false ∧ (∃ u, w'.cell? ⟨p, q * 16 + 9, none⟩ = some u) ∧ w'.frozen? ⟨p, q * 16 + 9, none⟩ = false ∧ (∃ u, w'.cell? ⟨p, q * 16 + 10, none⟩ = some u) ∧ w'.frozen? ⟨p, q * 16 + 10, none⟩ = false ∧ (∃ u, w'.cell? ⟨p, q * 16 + 11, none⟩ = some u) ∧ w'.frozen? ⟨p, q * 16 + 11, none⟩ = false ∧ (∃ u, w'.cell? ⟨p, q * 16 + 12, none⟩ = some u) ∧ w'.frozen? ⟨p, q * 16 + 12, none⟩ = false ∧ (∃ u, w'.cell? ⟨p, q * 16 + 13, none⟩ = some u) ∧ w'.frozen? ⟨p, q * 16 + 13, none⟩ = false ∧ (∃ u, w'.cell? ⟨p, q * 16 + 14, none⟩ = some u) ∧ w'.frozen? ⟨p, q * 16 + 14, none⟩ = false ∧ (∃ u, w'.cell? ⟨p, q * 16 + 15, none⟩ = some u) ∧ w'.frozen? ⟨p, q * 16 + 15, none⟩ = false ∧ p < w'.heap.size ∧ Hid (w'.rowIs p T N f1 ∧ Kept w w' (· = p))) := by
    refine (roundZ_any (w := w1.drew) hN HW.out.1 HF1.out.1 HF1.out.2.1 (by omega) (by omega) (by omega) (by have := HF1.out.2.2.2; omega)).mono ?_
    rintro e w3 ⟨rfl, n3, rfl⟩
    have hrw : (w1.drew.drewN n3).rowIs p T N f1 := HW.out.1
    have hset := row16 (o := q * 16) hrw (.int .u32 t0) (.int .u32 t1) (.int .i8 t2) (.int .u32 t3) (.int .i64 t4) (.int .i8 x0) (.string x1) (.slice x2 x3 x4) (.slice x5 x6 x7) (.int .i32 x8) (.bool x9) (.bool x10) (.int .i64 x11) (.int .i32 x12) (.slice x13 x14 x15) (.slice x16 x17 x18)
    have hbx : (w1.drew.drewN n3).heap[w.heap.size]? = some (.cells #[.int .u32 t0, .int .u32 t1, .int .i8 t2, .int .u32 t3, .int .i64 t4, .int .i8 x0, .string x1, .slice x2 x3 x4, .slice x5 x6 x7, .int .i32 x8, .bool x9, .bool x10, .int .i64 x11, .int .i32 x12, .slice x13 x14 x15, .slice x16 x17 x18] 43 (0, 0)) := HW.out.2.1
    refine ⟨by rw [HQ.out], puM_of hbx hrw hN HF1.out.2.2.1, puM_of ((kept16 _ p (q * 16) (.int .u32 t0) (.int .u32 t1) (.int .i8 t2) (.int .u32 t3) (.int .i64 t4) (.int .i8 x0) (.string x1) (.slice x2 x3 x4) (.slice x5 x6 x7) (.int .i32 x8) (.bool x9) (.bool x10) (.int .i64 x11) (.int .i32 x12) (.slice x13 x14 x15) (.slice x16 x17 x18)).heap hbx (fun e => by omega)) hset hN (by rw [put16_out (by omega)]; exact HF1.out.2.2.1), hset.frozen _, ⟨_, hrw.cell (by omega)⟩, hrw.frozen _, ⟨_, hrw.cell (by omega)⟩, hrw.frozen _, ⟨_, hrw.cell (by omega)⟩, hrw.frozen _, ⟨_, hrw.cell (by omega)⟩, hrw.frozen _, ⟨_, hrw.cell (by omega)⟩, hrw.frozen _, ⟨_, hrw.cell (by omega)⟩, hrw.frozen _, ⟨_, hrw.cell (by omega)⟩, hrw.frozen _, ⟨_, hrw.cell (by omega)⟩, hrw.frozen _, ⟨_, hrw.cell (by omega)⟩, hrw.frozen _, ⟨_, hrw.cell (by omega)⟩, hrw.frozen _, ⟨_, hrw.cell (by omega)⟩, hrw.frozen _, ⟨_, hrw.cell (by omega)⟩, hrw.frozen _, ⟨_, hrw.cell (by omega)⟩, hrw.frozen _, ⟨_, hrw.cell (by omega)⟩, hrw.frozen _, ⟨_, hrw.cell (by omega)⟩, hrw.frozen _, ⟨_, hrw.cell (by omega)⟩, hrw.frozen _, hrw.lt, hrw, ?_⟩
    exact Kept.drewN (Kept.drewN HW.out.2.2 1) n3
  have k0 : PuM w.heap.size p n (.int .u32 t0) (.int .u32 t1) (.int .i8 t2) (.int .u32 t3) (.int .i64 t4) (.int .i8 x0) (.string x1) (.slice x2 x3 x4) (.slice x5 x6 x7) (.int .i32 x8) (.bool x9) (.bool x10) (.int .i64 x11) (.int .i32 x12) (.slice x13 x14 x15) (.slice x16 x17 x18) w1.drew := puM_of HW.out.2.1 HW.out.1 hN HF1.out.2.2.1
  go_region_held (fun w' => w'.cell? ⟨w.heap.size, 0, none⟩ = some (.int .u32 t0) ∧ w'.cell? ⟨w.heap.size, 1, none⟩ = some (.int .u32 t1) ∧ w'.cell? ⟨w.heap.size, 2, none⟩ = some (.int .i8 t2) ∧ w'.cell? ⟨w.heap.size, 3, none⟩ = some (.int .u32 t3) ∧ w'.cell? ⟨w.heap.size, 4, none⟩ = some (.int .i64 t4) ∧ w'.cell? ⟨w.heap.size, 5, none⟩ = some (.int .i8 x0) ∧ w'.cell? ⟨w.heap.size, 6, none⟩ = some (.string x1) ∧ w'.cell? ⟨w.heap.size, 7, none⟩ = some (.slice x2 x3 x4) ∧ w'.cell? ⟨w.heap.size, 8, none⟩ = some (.slice x5 x6 x7) ∧ w'.cell? ⟨w.heap.size, 9, none⟩ = some (.int .i32 x8) ∧ w'.cell? ⟨w.heap.size, 10, none⟩ = some (.bool x9) ∧ w'.cell? ⟨w.heap.size, 11, none⟩ = some (.bool x10) ∧ w'.cell? ⟨w.heap.size, 12, none⟩ = some (.int .i64 x11) ∧ w'.cell? ⟨w.heap.size, 13, none⟩ = some (.int .i32 x12) ∧ w'.cell? ⟨w.heap.size, 14, none⟩ = some (.slice x13 x14 x15) ∧ w'.cell? ⟨w.heap.size, 15, none⟩ = some (.slice x16 x17 x18) ∧ w'.cell? ⟨p, 1026, none⟩ = some (.int .i64 n)) (first | (with_reducible exact k2) | (with_reducible exact k1) | (with_reducible exact k0)) (first | (go_at_call 28; refine Calls.mono HR2.out ?_; rintro e w3 ⟨rfl, k1, k2, fz, ⟨qq0, hu0⟩, fz0, ⟨qq1, hu1⟩, fz1, ⟨qq2, hu2⟩, fz2, ⟨qq3, hu3⟩, fz3, ⟨qq4, hu4⟩, fz4, ⟨qq5, hu5⟩, fz5, ⟨qq6, hu6⟩, fz6, ⟨qq7, hu7⟩, fz7, ⟨qq8, hu8⟩, fz8, ⟨qq9, hu9⟩, fz9, ⟨qq10, hu10⟩, fz10, ⟨qq11, hu11⟩, fz11, ⟨qq12, hu12⟩, fz12, ⟨qq13, hu13⟩, fz13, ⟨qq14, hu14⟩, fz14, ⟨qq15, hu15⟩, fz15, lp, H3⟩))
  have k3 : (((((((((((((((((w3).setCell ⟨p, q * 16, none⟩ (.int .u32 t0)).setCell ⟨p, q * 16 + 1, none⟩ (.int .u32 t1)).setCell ⟨p, q * 16 + 2, none⟩ (.int .i8 t2)).setCell ⟨p, q * 16 + 3, none⟩ (.int .u32 t3)).setCell ⟨p, q * 16 + 4, none⟩ (.int .i64 t4)).setCell ⟨p, q * 16 + 5, none⟩ (.int .i8 x0)).setCell ⟨p, q * 16 + 6, none⟩ (.string x1)).setCell ⟨p, q * 16 + 7, none⟩ (.slice x2 x3 x4)).setCell ⟨p, q * 16 + 8, none⟩ (.slice x5 x6 x7)).setCell ⟨p, q * 16 + 9, none⟩ (.int .i32 x8)).setCell ⟨p, q * 16 + 10, none⟩ (.bool x9)).setCell ⟨p, q * 16 + 11, none⟩ (.bool x10)).setCell ⟨p, q * 16 + 12, none⟩ (.int .i64 x11)).setCell ⟨p, q * 16 + 13, none⟩ (.int .i32 x12)).setCell ⟨p, q * 16 + 14, none⟩ (.slice x13 x14 x15)).setCell ⟨p, q * 16 + 15, none⟩ (.slice x16 x17 x18)).cell? ⟨p, 1026, none⟩ = some (.int .i64 n) := k2.2.2.2.2.2.2.2.2.2.2.2.2.2.2.2.2
  have l4 : p < (((((((((((((((((w3).setCell ⟨p, q * 16, none⟩ (.int .u32 t0)).setCell ⟨p, q * 16 + 1, none⟩ (.int .u32 t1)).setCell ⟨p, q * 16 + 2, none⟩ (.int .i8 t2)).setCell ⟨p, q * 16 + 3, none⟩ (.int .u32 t3)).setCell ⟨p, q * 16 + 4, none⟩ (.int .i64 t4)).setCell ⟨p, q * 16 + 5, none⟩ (.int .i8 x0)).setCell ⟨p, q * 16 + 6, none⟩ (.string x1)).setCell ⟨p, q * 16 + 7, none⟩ (.slice x2 x3 x4)).setCell ⟨p, q * 16 + 8, none⟩ (.slice x5 x6 x7)).setCell ⟨p, q * 16 + 9, none⟩ (.int .i32 x8)).setCell ⟨p, q * 16 + 10, none⟩ (.bool x9)).setCell ⟨p, q * 16 + 11, none⟩ (.bool x10)).setCell ⟨p, q * 16 + 12, none⟩ (.int .i64 x11)).setCell ⟨p, q * 16 + 13, none⟩ (.int .i32 x12)).setCell ⟨p, q * 16 + 14, none⟩ (.slice x13 x14 x15)).setCell ⟨p, q * 16 + 15, none⟩ (.slice x16 x17 x18)).heap.size := Nat.lt_of_lt_of_le lp (kept16 w3 p (q * 16) (.int .u32 t0) (.int .u32 t1) (.int .i8 t2) (.int .u32 t3) (.int .i64 t4) (.int .i8 x0) (.string x1) (.slice x2 x3 x4) (.slice x5 x6 x7) (.int .i32 x8) (.bool x9) (.bool x10) (.int .i64 x11) (.int .i32 x12) (.slice x13 x14 x15) (.slice x16 x17 x18)).size
  have HZ : Hid (IsRz T N ((((((((((((((((((w3).setCell ⟨p, q * 16, none⟩ (.int .u32 t0)).setCell ⟨p, q * 16 + 1, none⟩ (.int .u32 t1)).setCell ⟨p, q * 16 + 2, none⟩ (.int .i8 t2)).setCell ⟨p, q * 16 + 3, none⟩ (.int .u32 t3)).setCell ⟨p, q * 16 + 4, none⟩ (.int .i64 t4)).setCell ⟨p, q * 16 + 5, none⟩ (.int .i8 x0)).setCell ⟨p, q * 16 + 6, none⟩ (.string x1)).setCell ⟨p, q * 16 + 7, none⟩ (.slice x2 x3 x4)).setCell ⟨p, q * 16 + 8, none⟩ (.slice x5 x6 x7)).setCell ⟨p, q * 16 + 9, none⟩ (.int .i32 x8)).setCell ⟨p, q * 16 + 10, none⟩ (.bool x9)).setCell ⟨p, q * 16 + 11, none⟩ (.bool x10)).setCell ⟨p, q * 16 + 12, none⟩ (.int .i64 x11)).setCell ⟨p, q * 16 + 13, none⟩ (.int .i32 x12)).setCell ⟨p, q * 16 + 14, none⟩ (.slice x13 x14 x15)).setCell ⟨p, q * 16 + 15, none⟩ (.slice x16 x17 x18)).setCell ⟨p, 1026, none⟩ (.int .i64 ((n : Int) + 1))) p m (ys ++ [[.int .u32 t0, .int .u32 t1, .int .i8 t2, .int .u32 t3, .int .i64 t4, .int .i8 x0, .string x1, .slice x2 x3 x4, .slice x5 x6 x7, .int .i32 x8, .bool x9, .bool x10, .int .i64 x11, .int .i32 x12, .slice x13 x14 x15, .slice x16 x17 x18]]) ∧ Kept w ((((((((((((((((((w3).setCell ⟨p, q * 16, none⟩ (.int .u32 t0)).setCell ⟨p, q * 16 + 1, none⟩ (.int .u32 t1)).setCell ⟨p, q * 16 + 2, none⟩ (.int .i8 t2)).setCell ⟨p, q * 16 + 3, none⟩ (.int .u32 t3)).setCell ⟨p, q * 16 + 4, none⟩ (.int .i64 t4)).setCell ⟨p, q * 16 + 5, none⟩ (.int .i8 x0)).setCell ⟨p, q * 16 + 6, none⟩ (.string x1)).setCell ⟨p, q * 16 + 7, none⟩ (.slice x2 x3 x4)).setCell ⟨p, q * 16 + 8, none⟩ (.slice x5 x6 x7)).setCell ⟨p, q * 16 + 9, none⟩ (.int .i32 x8)).setCell ⟨p, q * 16 + 10, none⟩ (.bool x9)).setCell ⟨p, q * 16 + 11, none⟩ (.bool x10)).setCell ⟨p, q * 16 + 12, none⟩ (.int .i64 x11)).setCell ⟨p, q * 16 + 13, none⟩ (.int .i32 x12)).setCell ⟨p, q * 16 + 14, none⟩ (.slice x13 x14 x15)).setCell ⟨p, q * 16 + 15, none⟩ (.slice x16 x17 x18)).setCell ⟨p, 1026, none⟩ (.int .i64 ((n : Int) + 1))) (· = p)) :=
    ⟨⟨hN, first1, _, (row16 (o := q * 16) H3.out.1 (.int .u32 t0) (.int .u32 t1) (.int .i8 t2) (.int .u32 t3) (.int .i64 t4) (.int .i8 x0) (.string x1) (.slice x2 x3 x4) (.slice x5 x6 x7) (.int .i32 x8) (.bool x9) (.bool x10) (.int .i64 x11) (.int .i32 x12) (.slice x13 x14 x15) (.slice x16 x17 x18)).set 1026 _, HP.out⟩, Kept.setCell (Kept.trans H3.out.2 (kept16 w3 p (q * 16) (.int .u32 t0) (.int .u32 t1) (.int .i8 t2) (.int .u32 t3) (.int .i64 t4) (.int .i8 x0) (.string x1) (.slice x2 x3 x4) (.slice x5 x6 x7) (.int .i32 x8) (.bool x9) (.bool x10) (.int .i64 x11) (.int .i32 x12) (.slice x13 x14 x15) (.slice x16 x17 x18)) (fun _ _ e => e)) _ _ (fun _ => rfl)⟩
  have f4 : (((((((((((((((((w3).setCell ⟨p, q * 16, none⟩ (.int .u32 t0)).setCell ⟨p, q * 16 + 1, none⟩ (.int .u32 t1)).setCell ⟨p, q * 16 + 2, none⟩ (.int .i8 t2)).setCell ⟨p, q * 16 + 3, none⟩ (.int .u32 t3)).setCell ⟨p, q * 16 + 4, none⟩ (.int .i64 t4)).setCell ⟨p, q * 16 + 5, none⟩ (.int .i8 x0)).setCell ⟨p, q * 16 + 6, none⟩ (.string x1)).setCell ⟨p, q * 16 + 7, none⟩ (.slice x2 x3 x4)).setCell ⟨p, q * 16 + 8, none⟩ (.slice x5 x6 x7)).setCell ⟨p, q * 16 + 9, none⟩ (.int .i32 x8)).setCell ⟨p, q * 16 + 10, none⟩ (.bool x9)).setCell ⟨p, q * 16 + 11, none⟩ (.bool x10)).setCell ⟨p, q * 16 + 12, none⟩ (.int .i64 x11)).setCell ⟨p, q * 16 + 13, none⟩ (.int .i32 x12)).setCell ⟨p, q * 16 + 14, none⟩ (.slice x13 x14 x15)).setCell ⟨p, q * 16 + 15, none⟩ (.slice x16 x17 x18)).frozen? ⟨p, 1026, none⟩ = false := fz
  clear HR2 HP HW HF1 HQ k0 k1 k2 H3 fz hu0 fz0 hu1 fz1 hu2 fz2 hu3 fz3 hu4 fz4 hu5 fz5 hu6 fz6 hu7 fz7 hu8 fz8 hu9 fz9 hu10 fz10 hu11 fz11 hu12 fz12 hu13 fz13 hu14 fz14 hu15 fz15
  obtain ⟨w4, hw4⟩ : ∃ w4, w4 = ((((((((((((((((w3).setCell ⟨p, q * 16, none⟩ (.int .u32 t0)).setCell ⟨p, q * 16 + 1, none⟩ (.int .u32 t1)).setCell ⟨p, q * 16 + 2, none⟩ (.int .i8 t2)).setCell ⟨p, q * 16 + 3, none⟩ (.int .u32 t3)).setCell ⟨p, q * 16 + 4, none⟩ (.int .i64 t4)).setCell ⟨p, q * 16 + 5, none⟩ (.int .i8 x0)).setCell ⟨p, q * 16 + 6, none⟩ (.string x1)).setCell ⟨p, q * 16 + 7, none⟩ (.slice x2 x3 x4)).setCell ⟨p, q * 16 + 8, none⟩ (.slice x5 x6 x7)).setCell ⟨p, q * 16 + 9, none⟩ (.int .i32 x8)).setCell ⟨p, q * 16 + 10, none⟩ (.bool x9)).setCell ⟨p, q * 16 + 11, none⟩ (.bool x10)).setCell ⟨p, q * 16 + 12, none⟩ (.int .i64 x11)).setCell ⟨p, q * 16 + 13, none⟩ (.int .i32 x12)).setCell ⟨p, q * 16 + 14, none⟩ (.slice x13 x14 x15)).setCell ⟨p, q * 16 + 15, none⟩ (.slice x16 x17 x18) := ⟨_, rfl⟩
  rw [← hw4] at k3 l4 HZ f4 ⊢
  clear hw4
  go_wp2_with fail
  all_goals ((first | go_end0 | refine bodyPost_ret (results_none rfl _ _ _) rfl ?_); exact ⟨rfl, HZ.out⟩)
end Go.Proofs.Yteindmdggpahfaa
