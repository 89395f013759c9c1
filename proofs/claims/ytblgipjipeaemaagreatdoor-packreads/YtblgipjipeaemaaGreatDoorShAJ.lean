/- What should of the statements does with the document's Reader: one call, and what it told (kinds 1 to 9). -/
import Derived.Test.YtblgipjipeaemaaGreatDoorGetJ
import Derived.Test.YtblgipjipeaemaaGreatDoorFrmAJ
import Derived.Test.YtblgipjipeaemaaGreatDoorFrmCJ
namespace Go.Proofs.YtblgipjipeaemaaGreatDoor
open Go.RowKit
set_option maxRecDepth 8000

theorem IsQ.alloc {w : World} {g : Nat} {v : Value} {bs : List Int} {p : Nat} {f : Int} (h : IsQ w g v bs p f) (o : Obj) : IsQ (w.alloc o) g v bs p f := h.kept ((Kept.refl w (fun _ => False)).alloc o) (fun h => h) (fun _ _ h => h)

theorem IsQ.kept' {w w' : World} {S : Nat → Prop} {g : Nat} {v : Value} {bs : List Int} {p : Nat} {f : Int} (h : IsQ w g v bs p f) (hk : Kept w w' S) (hg : ¬ S g) (hn : bs ≠ [] → ∀ k, v.ownBlock = some k → ¬ S k) : IsQ w' g v bs p f :=
  ⟨hk.heap h.1 hg, h.2.1.kept' hk hn, h.2.2⟩

theorem toldQ_kept {w w1 : World} {o : Obj} {g : Nat} {v : Value} {s : Rd} {bs : List Int} {p : Nat} {f : Int} (h : IsQ w g v bs p f) (hp : QTo ((w.alloc o).alloc told0) g v bs s w1) : w1.heap[w.heap.size + 1]? = some told0 := by
  obtain ⟨_, _, _, h3⟩ := hp
  have hn := heap_alloc_new (w.alloc o) told0
  have e : (w.alloc o).heap.size = w.heap.size + 1 := by simp
  rw [e] at hn
  exact h3.heap hn (fun hs => by have := lt_of_block h.1; omega)

theorem Owns.lower {w : World} {a b : Nat} {v : Value} {xs : List Int} (h : Owns w b v xs) (hab : a ≤ b) : Owns w a v xs := by
  obtain ⟨h1, h2 | ⟨g, cap, cur, rfl, a2, a3⟩⟩ := h
  · exact ⟨h1, .inl h2⟩
  · exact ⟨h1, .inr ⟨g, cap, cur, rfl, Nat.le_trans hab a2, a3⟩⟩

theorem setsT {w1 : World} (b : Nat) (c0 c1 c2 c3 c4 c5 c6 : Value) : Kept w1 (((((((w1.setCell ⟨b, 0, none⟩ c0).setCell ⟨b, 1, none⟩ c1).setCell ⟨b, 2, none⟩ c2).setCell ⟨b, 3, none⟩ c3).setCell ⟨b, 4, none⟩ c4).setCell ⟨b, 5, none⟩ c5).setCell ⟨b, 6, none⟩ c6) (fun k => k = b) :=
  have hs : b < w1.heap.size → (fun k => k = b) b := fun _ => rfl
  (((((((Kept.refl w1 (fun k => k = b)).setCell ⟨b, 0, none⟩ c0 hs).setCell ⟨b, 1, none⟩ c1 hs).setCell ⟨b, 2, none⟩ c2 hs).setCell ⟨b, 3, none⟩ c3 hs).setCell ⟨b, 4, none⟩ c4 hs).setCell ⟨b, 5, none⟩ c5 hs).setCell ⟨b, 6, none⟩ c6 hs

theorem QTo.told {w w1 : World} {o o' : Obj} {g : Nat} {v : Value} {bs : List Int} {s : Rd} (h : QTo ((w.alloc o).alloc o') g v bs s w1) (hg : g < w.heap.size) (hbox : w1.heap[w.heap.size + 1]? = some told0) (c0 c1 c2 c3 c4 c5 c6 : Value) :
    QTo w g v bs s (((((((w1.setCell ⟨w.heap.size + 1, 0, none⟩ c0).setCell ⟨w.heap.size + 1, 1, none⟩ c1).setCell ⟨w.heap.size + 1, 2, none⟩ c2).setCell ⟨w.heap.size + 1, 3, none⟩ c3).setCell ⟨w.heap.size + 1, 4, none⟩ c4).setCell ⟨w.heap.size + 1, 5, none⟩ c5).setCell ⟨w.heap.size + 1, 6, none⟩ c6) := by
  obtain ⟨p, e, h1, h3⟩ := h
  have hk := setsT (w1 := w1) (w.heap.size + 1) c0 c1 c2 c3 c4 c5 c6
  exact ⟨p, e, h1.kept' hk (by omega) (fun hx k hk e => told0_apart hbox h1.2.1 hx (by rw [hk, e])), ((((Kept.refl w _).alloc o).alloc o').trans h3 (fun _ _ e => e)).trans hk (fun k hk' e => by omega)⟩

theorem ownsQ_told {w1 : World} {B : Nat} {u : Value} {ys : List Int} {b : Nat} (h : Owns w1 B u ys) (hbox : w1.heap[b]? = some told0) (c0 c1 c2 c3 c4 c5 c6 : Value) :
    Owns (((((((w1.setCell ⟨b, 0, none⟩ c0).setCell ⟨b, 1, none⟩ c1).setCell ⟨b, 2, none⟩ c2).setCell ⟨b, 3, none⟩ c3).setCell ⟨b, 4, none⟩ c4).setCell ⟨b, 5, none⟩ c5).setCell ⟨b, 6, none⟩ c6) B u ys := by
  refine Owns.kept h (setsT b c0 c1 c2 c3 c4 c5 c6) (fun k e e' => ?_)
  subst e'
  rcases h.2 with ⟨q, _⟩ | ⟨gv, cap, cur, q, _, a3, _⟩
  · rw [q] at e; simp [Value.ownBlock] at e
  · rw [q] at e
    simp [Value.ownBlock] at e
    subst e
    rw [hbox] at a3
    simp at a3

theorem gotQ {R : Ending → World → Prop} {a : Act} {w1 : World} {b : Nat} {d0 d1 d2 d3 d4 d5 d6 : Value} (c0 c1 c2 c3 c4 c5 c6 : Value) (hbox : w1.heap[b]? = some (.cells #[d0, d1, d2, d3, d4, d5, d6] 76 (0, 0)))
    (h4 : a.tmps.getD 4 undef = .pointer (some ⟨b, 0, none⟩)) (hd : a.defers = [])
    (hR : R (.returned (.agg #[c0, c1, c2, c3, c4, c5, c6])) (((((((w1.setCell ⟨b, 0, none⟩ c0).setCell ⟨b, 1, none⟩ c1).setCell ⟨b, 2, none⟩ c2).setCell ⟨b, 3, none⟩ c3).setCell ⟨b, 4, none⟩ c4).setCell ⟨b, 5, none⟩ c5).setCell ⟨b, 6, none⟩ c6)) :
    bodyPost Tryz.prog Tryz.f20 R .ret a (((((((w1.setCell ⟨b, 0, none⟩ c0).setCell ⟨b, 1, none⟩ c1).setCell ⟨b, 2, none⟩ c2).setCell ⟨b, 3, none⟩ c3).setCell ⟨b, 4, none⟩ c4).setCell ⟨b, 5, none⟩ c5).setCell ⟨b, 6, none⟩ c6) := by
  have hrow := heap_set (i := 6) c6 (heap_set (i := 5) c5 (heap_set (i := 4) c4 (heap_set (i := 3) c3 (heap_set (i := 2) c2 (heap_set (i := 1) c1 (heap_set (i := 0) c0 hbox))))))
  have e : (((((((#[d0, d1, d2, d3, d4, d5, d6].setIfInBounds 0 c0).setIfInBounds 1 c1).setIfInBounds 2 c2).setIfInBounds 3 c3).setIfInBounds 4 c4).setIfInBounds 5 c5).setIfInBounds 6 c6) = #[c0, c1, c2, c3, c4, c5, c6] := by
    simp
  rw [e] at hrow
  refine bodyPost_ret (v := .agg #[c0, c1, c2, c3, c4, c5, c6]) ?_ hd hR
  have hl := run_loadVar_row (P := Tryz.prog) _ b _ 76 _ _ _ hrow Tryz.underlying76 rfl told_size
  rw [results_cell1 Tryz.results20, h4]
  simp only [asAddr, Sem.run_pure, Result.andThen_ok, hl]

section
variable (g : Nat) (v : Value) (bs : List Int) (p : Nat) (f on n : Int) (x : Nat) (s : ByteArray) (ao : Option Addr) (l cap : Nat) (w : World)

set_option maxHeartbeats 400000 in
theorem should_bool (h : IsQ w g v bs p f) (hb : Byts bs) :
    Calls Tryz.prog 20 #[.pointer (some ⟨g, 0, none⟩), opv 1 on n x s (.slice ao l cap)] w fun e w' => e = .returned (.agg (told ((rdBool (bs.drop p) f).out == 1) 0 0 ⟨#[]⟩ (.slice none 0 0) 0 0)) ∧ QTo w g v bs (rdBool (bs.drop p) f) w' := by
  have hsf := store_float
  have H : Hid (IsQ w g v bs p f ∧ Byts bs) := ⟨h, hb⟩
  clear h hb
  go_enter Tryz.func20, Tryz.ntmps20
  go_wp2_with fail
  refine (qBool_any g v bs p f _ ((H.out.1.alloc _).alloc _) H.out.2).mono ?_
  rintro e w1 ⟨rfl, hp⟩
  have hbox := toldQ_kept H.out.1 hp
  obtain ⟨k0, k1, k2, k3, k4, k5, k6, kf⟩ := row7 hbox
  have HP : Hid (QTo ((w.alloc (opc 1 on n x s (.slice ao l cap))).alloc told0) g v bs (rdBool (bs.drop p) f) w1) := hp
  clear hp
  go_wp2
  exact gotQ _ _ _ _ _ _ _ hbox rfl rfl ⟨rfl, HP.out.told (lt_of_block H.out.1.1) hbox _ _ _ _ _ _ _⟩

set_option maxHeartbeats 400000 in
theorem should_int8 (h : IsQ w g v bs p f) (hb : Byts bs) :
    Calls Tryz.prog 20 #[.pointer (some ⟨g, 0, none⟩), opv 2 on n x s (.slice ao l cap)] w fun e w' => e = .returned (.agg (told false (IntKind.i8.wrap (rdNum 1 (bs.drop p) f).out) 0 ⟨#[]⟩ (.slice none 0 0) 0 0)) ∧ QTo w g v bs (rdNum 1 (bs.drop p) f) w' := by
  have hsf := store_float
  have H : Hid (IsQ w g v bs p f ∧ Byts bs) := ⟨h, hb⟩
  clear h hb
  have hid := i8_64 (rdNum 1 (bs.drop p) f).out
  go_enter Tryz.func20, Tryz.ntmps20
  go_wp2_with fail
  refine (qInt8_any g v bs p f _ ((H.out.1.alloc _).alloc _) H.out.2).mono ?_
  rintro e w1 ⟨rfl, hp⟩
  have hbox := toldQ_kept H.out.1 hp
  obtain ⟨k0, k1, k2, k3, k4, k5, k6, kf⟩ := row7 hbox
  have HP : Hid (QTo ((w.alloc (opc 2 on n x s (.slice ao l cap))).alloc told0) g v bs (rdNum 1 (bs.drop p) f) w1) := hp
  clear hp
  go_wp2
  exact gotQ _ _ _ _ _ _ _ hbox rfl rfl ⟨rfl, HP.out.told (lt_of_block H.out.1.1) hbox _ _ _ _ _ _ _⟩

set_option maxHeartbeats 400000 in
theorem should_int32 (h : IsQ w g v bs p f) (hb : Byts bs) :
    Calls Tryz.prog 20 #[.pointer (some ⟨g, 0, none⟩), opv 3 on n x s (.slice ao l cap)] w fun e w' => e = .returned (.agg (told false (down32 (rdNum 4 (bs.drop p) f).out) 0 ⟨#[]⟩ (.slice none 0 0) 0 0)) ∧ QTo w g v bs (rdNum 4 (bs.drop p) f) w' := by
  have hsf := store_float
  have H : Hid (IsQ w g v bs p f ∧ Byts bs) := ⟨h, hb⟩
  clear h hb
  have hid := d32_64 (rdNum 4 (bs.drop p) f).out
  go_enter Tryz.func20, Tryz.ntmps20
  go_wp2_with fail
  refine (qInt32_any g v bs p f _ ((H.out.1.alloc _).alloc _) H.out.2).mono ?_
  rintro e w1 ⟨rfl, hp⟩
  have hbox := toldQ_kept H.out.1 hp
  obtain ⟨k0, k1, k2, k3, k4, k5, k6, kf⟩ := row7 hbox
  have HP : Hid (QTo ((w.alloc (opc 3 on n x s (.slice ao l cap))).alloc told0) g v bs (rdNum 4 (bs.drop p) f) w1) := hp
  clear hp
  go_wp2
  exact gotQ _ _ _ _ _ _ _ hbox rfl rfl ⟨rfl, HP.out.told (lt_of_block H.out.1.1) hbox _ _ _ _ _ _ _⟩

set_option maxHeartbeats 400000 in
theorem should_uint32 (h : IsQ w g v bs p f) (hb : Byts bs) :
    Calls Tryz.prog 20 #[.pointer (some ⟨g, 0, none⟩), opv 4 on n x s (.slice ao l cap)] w fun e w' => e = .returned (.agg (told false (rdNum 4 (bs.drop p) f).out 0 ⟨#[]⟩ (.slice none 0 0) 0 0)) ∧ QTo w g v bs (rdNum 4 (bs.drop p) f) w' := by
  have hsf := store_float
  have H : Hid (IsQ w g v bs p f ∧ Byts bs) := ⟨h, hb⟩
  clear h hb
  have hid : wrap64 (rdNum 4 (bs.drop p) f).out = (rdNum 4 (bs.drop p) f).out := by
    have := rdNum_bd 4 (bs.drop p) f (fun x hx => H.out.2 x (List.mem_of_mem_drop hx))
    have h4 : (256 : Int) ^ 4 = 4294967296 := by decide
    rw [h4] at this
    exact wrap64_id (by omega) (by omega)
  go_enter Tryz.func20, Tryz.ntmps20
  go_wp2_with fail
  refine (qUint32_any g v bs p f _ ((H.out.1.alloc _).alloc _) H.out.2).mono ?_
  rintro e w1 ⟨rfl, hp⟩
  have hbox := toldQ_kept H.out.1 hp
  obtain ⟨k0, k1, k2, k3, k4, k5, k6, kf⟩ := row7 hbox
  have HP : Hid (QTo ((w.alloc (opc 4 on n x s (.slice ao l cap))).alloc told0) g v bs (rdNum 4 (bs.drop p) f) w1) := hp
  clear hp
  go_wp2
  exact gotQ _ _ _ _ _ _ _ hbox rfl rfl ⟨rfl, HP.out.told (lt_of_block H.out.1.1) hbox _ _ _ _ _ _ _⟩

set_option maxHeartbeats 400000 in
theorem should_int64 (h : IsQ w g v bs p f) (hb : Byts bs) :
    Calls Tryz.prog 20 #[.pointer (some ⟨g, 0, none⟩), opv 5 on n x s (.slice ao l cap)] w fun e w' => e = .returned (.agg (told false (wrap64 (rdNum 8 (bs.drop p) f).out) 0 ⟨#[]⟩ (.slice none 0 0) 0 0)) ∧ QTo w g v bs (rdNum 8 (bs.drop p) f) w' := by
  have hsf := store_float
  have H : Hid (IsQ w g v bs p f ∧ Byts bs) := ⟨h, hb⟩
  clear h hb
  go_enter Tryz.func20, Tryz.ntmps20
  go_wp2_with fail
  refine (qInt64_any g v bs p f _ ((H.out.1.alloc _).alloc _) H.out.2).mono ?_
  rintro e w1 ⟨rfl, hp⟩
  have hbox := toldQ_kept H.out.1 hp
  obtain ⟨k0, k1, k2, k3, k4, k5, k6, kf⟩ := row7 hbox
  have HP : Hid (QTo ((w.alloc (opc 5 on n x s (.slice ao l cap))).alloc told0) g v bs (rdNum 8 (bs.drop p) f) w1) := hp
  clear hp
  go_wp2
  exact gotQ _ _ _ _ _ _ _ hbox rfl rfl ⟨rfl, HP.out.told (lt_of_block H.out.1.1) hbox _ _ _ _ _ _ _⟩

set_option maxHeartbeats 400000 in
theorem should_float (h : IsQ w g v bs p f) (hb : Byts bs) :
    Calls Tryz.prog 20 #[.pointer (some ⟨g, 0, none⟩), opv 6 on n x s (.slice ao l cap)] w fun e w' => ∃ y, e = .returned (.agg (told false 0 y ⟨#[]⟩ (.slice none 0 0) 0 0)) ∧ FlOf (rdFloat (bs.drop p) f).out.toNat y ∧ QTo w g v bs (rdFloat (bs.drop p) f) w' := by
  have hsf := store_float
  have H : Hid (IsQ w g v bs p f ∧ Byts bs) := ⟨h, hb⟩
  clear h hb
  go_enter Tryz.func20, Tryz.ntmps20
  go_wp2_with fail
  refine (qFloat_any g v bs p f _ ((H.out.1.alloc _).alloc _) H.out.2).mono ?_
  rintro e w1 ⟨y, rfl, hy, hp⟩
  have HY : Hid (FlOf (rdFloat (bs.drop p) f).out.toNat y) := hy
  clear hy
  have hbox := toldQ_kept H.out.1 hp
  obtain ⟨k0, k1, k2, k3, k4, k5, k6, kf⟩ := row7 hbox
  have HP : Hid (QTo ((w.alloc (opc 6 on n x s (.slice ao l cap))).alloc told0) g v bs (rdFloat (bs.drop p) f) w1) := hp
  clear hp
  go_wp2
  exact gotQ _ _ _ _ _ _ _ hbox rfl rfl ⟨_, rfl, HY.out, HP.out.told (lt_of_block H.out.1.1) hbox _ _ _ _ _ _ _⟩

set_option maxHeartbeats 400000 in
theorem should_text (h : IsQ w g v bs p f) (hb : Byts bs) :
    Calls Tryz.prog 20 #[.pointer (some ⟨g, 0, none⟩), opv 7 on n x s (.slice ao l cap)] w fun e w' => e = .returned (.agg (told false 0 0 (strOfNums (rdBuf n (bs.drop p) f).1) (.slice none 0 0) 0 0)) ∧ QTo w g v bs ((rdBuf n (bs.drop p) f).2) w' := by
  have hsf := store_float
  have H : Hid (IsQ w g v bs p f ∧ Byts bs) := ⟨h, hb⟩
  clear h hb
  go_enter Tryz.func20, Tryz.ntmps20
  go_wp2_with fail
  refine (bound_any n _).mono ?_
  rintro e w0 ⟨rfl, rfl⟩
  go_wp2_with fail
  refine (qText_any g v bs p f _ n ((H.out.1.alloc _).alloc _) H.out.2).mono ?_
  rintro e w1 ⟨rfl, hp⟩
  have hbox := toldQ_kept H.out.1 hp
  obtain ⟨k0, k1, k2, k3, k4, k5, k6, kf⟩ := row7 hbox
  have HP : Hid (QTo ((w.alloc (opc 7 on n x s (.slice ao l cap))).alloc told0) g v bs ((rdBuf n (bs.drop p) f).2) w1) := hp
  clear hp
  go_wp2
  exact gotQ _ _ _ _ _ _ _ hbox rfl rfl ⟨rfl, HP.out.told (lt_of_block H.out.1.1) hbox _ _ _ _ _ _ _⟩

set_option maxHeartbeats 400000 in
theorem should_buffer (h : IsQ w g v bs p f) (hb : Byts bs) :
    Calls Tryz.prog 20 #[.pointer (some ⟨g, 0, none⟩), opv 8 on n x s (.slice ao l cap)] w fun e w' => ∃ u, e = .returned (.agg (told false 0 0 ⟨#[]⟩ u 0 0)) ∧ Owns w' w.heap.size u (rdBuf n (bs.drop p) f).1 ∧ QTo w g v bs (rdBuf n (bs.drop p) f).2 w' := by
  have hsf := store_float
  have H : Hid (IsQ w g v bs p f ∧ Byts bs) := ⟨h, hb⟩
  clear h hb
  go_enter Tryz.func20, Tryz.ntmps20
  go_wp2_with fail
  refine (bound_any n _).mono ?_
  rintro e w0 ⟨rfl, rfl⟩
  go_wp2_with fail
  refine (qBuffer_any g v bs p f _ n ((H.out.1.alloc _).alloc _) H.out.2).mono ?_
  rintro e w1 ⟨u, rfl, hc, hp⟩
  have hc := Owns.lower hc (show w.heap.size ≤ _ by simp; omega)
  have hbox := toldQ_kept H.out.1 hp
  obtain ⟨k0, k1, k2, k3, k4, k5, k6, kf⟩ := row7 hbox
  obtain ⟨ua, un, uc, rfl⟩ := owns_shape hc
  have HP : Hid (Owns w1 w.heap.size (.slice ua un uc) (rdBuf n (bs.drop p) f).1 ∧ QTo ((w.alloc (opc 8 on n x s (.slice ao l cap))).alloc told0) g v bs (rdBuf n (bs.drop p) f).2 w1) := ⟨hc, hp⟩
  clear hp hc
  go_wp2
  exact gotQ _ _ _ _ _ _ _ hbox rfl rfl ⟨_, rfl, ownsQ_told HP.out.1 hbox _ _ _ _ _ _ _, HP.out.2.told (lt_of_block H.out.1.1) hbox _ _ _ _ _ _ _⟩

set_option maxHeartbeats 400000 in
theorem should_raw (h : IsQ w g v bs p f) (hb : Byts bs) :
    Calls Tryz.prog 20 #[.pointer (some ⟨g, 0, none⟩), opv 9 on n x s (.slice ao l cap)] w fun e w' => ∃ u, e = .returned (.agg (told false 0 0 ⟨#[]⟩ u 0 0)) ∧ Owns w' w.heap.size u (rdRaw n (bs.drop p) f).1 ∧ QTo w g v bs (rdRaw n (bs.drop p) f).2 w' := by
  have hsf := store_float
  have H : Hid (IsQ w g v bs p f ∧ Byts bs) := ⟨h, hb⟩
  clear h hb
  go_enter Tryz.func20, Tryz.ntmps20
  go_wp2_with fail
  refine (bound_any n _).mono ?_
  rintro e w0 ⟨rfl, rfl⟩
  go_wp2_with fail
  refine (qRaw_any g v bs p f _ n ((H.out.1.alloc _).alloc _)).mono ?_
  rintro e w1 ⟨u, rfl, hc, hp⟩
  have hc := Owns.lower hc (show w.heap.size ≤ _ by simp; omega)
  have hbox := toldQ_kept H.out.1 hp
  obtain ⟨k0, k1, k2, k3, k4, k5, k6, kf⟩ := row7 hbox
  obtain ⟨ua, un, uc, rfl⟩ := owns_shape hc
  have HP : Hid (Owns w1 w.heap.size (.slice ua un uc) (rdRaw n (bs.drop p) f).1 ∧ QTo ((w.alloc (opc 9 on n x s (.slice ao l cap))).alloc told0) g v bs (rdRaw n (bs.drop p) f).2 w1) := ⟨hc, hp⟩
  clear hp hc
  go_wp2
  exact gotQ _ _ _ _ _ _ _ hbox rfl rfl ⟨_, rfl, ownsQ_told HP.out.1 hbox _ _ _ _ _ _ _, HP.out.2.told (lt_of_block H.out.1.1) hbox _ _ _ _ _ _ _⟩

end
end Go.Proofs.YtblgipjipeaemaaGreatDoor
