/- What get of the statements does with a Reader: one call, and what it told. -/
import Derived.Test.YtblgipjipeaemaaGreatDoorReaderMoreJ
import Derived.Test.YtblgipjipeaemaaGreatDoorPutJ
import Derived.Laws.ResultCell
namespace Go.Proofs.YtblgipjipeaemaaGreatDoor
open Go.RowKit
set_option maxRecDepth 8000

/-- What a call told, as the statements write it. -/
abbrev told (b : Bool) (n : Int) (x : Nat) (s : ByteArray) (u : Value) (e0 e1 : Int) : Array Value := #[.bool b, .int .i64 n, .float .f64 x, .string s, u, .int .i64 e0, .int .i64 e1]
abbrev told0 : Obj := .cells (told false 0 0 ⟨#[]⟩ (.slice none 0 0) 0 0) 76

/-- Behind a Reader's call inside get: the block of the answer stands. -/
theorem told_kept {w w1 : World} {o : Obj} {g : Nat} {v : Value} {s : Rd} {xs : List Int} {f : Int} (h : IsR w g v xs f) (hp : ReadsTo ((w.alloc o).alloc told0) g v s w1) : w1.heap[w.heap.size + 1]? = some told0 := by
  obtain ⟨v', _, _, h3⟩ := hp
  have hn := heap_alloc_new (w.alloc o) told0
  have e : (w.alloc o).heap.size = w.heap.size + 1 := by simp
  rw [e] at hn
  exact h3.heap hn (fun hs => by have := lt_of_block h.1; omega)

section
variable {w : World} {b : Nat} {c0 c1 c2 c3 c4 c5 c6 : Value}
theorem row7 (h : w.heap[b]? = some (.cells #[c0, c1, c2, c3, c4, c5, c6] 76 (0, 0))) :
    w.cell? ⟨b, 0, none⟩ = some c0 ∧ w.cell? ⟨b, 1, none⟩ = some c1 ∧ w.cell? ⟨b, 2, none⟩ = some c2 ∧ w.cell? ⟨b, 3, none⟩ = some c3 ∧ w.cell? ⟨b, 4, none⟩ = some c4 ∧ w.cell? ⟨b, 5, none⟩ = some c5 ∧ w.cell? ⟨b, 6, none⟩ = some c6 ∧ ∀ j, w.frozen? ⟨b, j, none⟩ = false := by
  refine ⟨?_, ?_, ?_, ?_, ?_, ?_, ?_, fun j => frozen_of_row w b j _ _ h⟩ <;> (rw [cell_of_row w b _ _ _ _ h]; rfl)
end

theorem IsR.alloc {w : World} {g : Nat} {v : Value} {xs : List Int} {f : Int} (h : IsR w g v xs f) (o : Obj) : IsR (w.alloc o) g v xs f := h.kept ((Kept.refl w (fun _ => False)).alloc o) (fun h => h) (fun _ _ h => h)

theorem Sees.kept' {w w' : World} {S : Nat → Prop} {v : Value} {xs : List Int} (h : Sees w v xs) (hk : Kept w w' S) (hn : xs ≠ [] → ∀ k, v.ownBlock = some k → ¬ S k) : Sees w' v xs := by
  by_cases hx : xs = []
  · subst hx
    obtain ⟨ao, cap, rfl, h1, h2, h0, _⟩ := h
    exact ⟨ao, cap, rfl, h1, h2, h0, .inl rfl⟩
  · exact h.kept hk (hn hx)

theorem IsR.kept' {w w' : World} {S : Nat → Prop} {g : Nat} {v : Value} {xs : List Int} {f : Int} (h : IsR w g v xs f) (hk : Kept w w' S) (hg : ¬ S g) (hn : xs ≠ [] → ∀ k, v.ownBlock = some k → ¬ S k) : IsR w' g v xs f :=
  ⟨hk.heap h.1 hg, h.2.kept' hk hn⟩

theorem told0_u8 {w : World} {b off : Nat} {x : Int} (h : w.heap[b]? = some told0) : w.cell? ⟨b, off, none⟩ ≠ some (.int .u8 x) := by
  rw [cell_of_row w b off _ _ _ h]
  match off with
  | 0 | 1 | 2 | 3 | 4 | 5 | 6 => simp [told]
  | n + 7 => simp [told]

theorem told0_apart {w : World} {b : Nat} {v : Value} {xs : List Int} (h : w.heap[b]? = some told0) (hs : Sees w v xs) (hx : xs ≠ []) : v.ownBlock ≠ some b := by
  obtain ⟨ao, cap, rfl, _, _, _, h5⟩ := hs
  rcases h5 with h5 | ⟨k, off, rfl, h5⟩
  · exact absurd h5 hx
  · intro e
    simp [Value.ownBlock] at e
    subst e
    exact told0_u8 h (h5 0 (List.length_pos_iff.2 hx))

theorem store_float (P : Program) (w : World) (a : Addr) (m : Mode) (k : FloatKind) (b : Nat) : (store a (.float k b) m).run P w = stored P w a (.float k b) m := run_store P w a _ m rfl

theorem ReadsTo.told {w w1 : World} {o o' : Obj} {g : Nat} {v : Value} {s : Rd} (h : ReadsTo ((w.alloc o).alloc o') g v s w1) (hg : g < w.heap.size) (hbox : w1.heap[w.heap.size + 1]? = some told0) (c0 c1 c2 c3 c4 c5 c6 : Value) :
    ReadsTo w g v s (((((((w1.setCell ⟨w.heap.size + 1, 0, none⟩ c0).setCell ⟨w.heap.size + 1, 1, none⟩ c1).setCell ⟨w.heap.size + 1, 2, none⟩ c2).setCell ⟨w.heap.size + 1, 3, none⟩ c3).setCell ⟨w.heap.size + 1, 4, none⟩ c4).setCell ⟨w.heap.size + 1, 5, none⟩ c5).setCell ⟨w.heap.size + 1, 6, none⟩ c6) := by
  obtain ⟨v', h1, h2, h3⟩ := h
  have hK : ∀ w0 : World, ∀ S : Nat → Prop, Kept w0 w1 S → (w.heap.size + 1 < w0.heap.size → S (w.heap.size + 1)) → Kept w0 (((((((w1.setCell ⟨w.heap.size + 1, 0, none⟩ c0).setCell ⟨w.heap.size + 1, 1, none⟩ c1).setCell ⟨w.heap.size + 1, 2, none⟩ c2).setCell ⟨w.heap.size + 1, 3, none⟩ c3).setCell ⟨w.heap.size + 1, 4, none⟩ c4).setCell ⟨w.heap.size + 1, 5, none⟩ c5).setCell ⟨w.heap.size + 1, 6, none⟩ c6) S := fun w0 S hk hs =>
    ((((((hk.setCell _ c0 hs).setCell _ c1 hs).setCell _ c2 hs).setCell _ c3 hs).setCell _ c4 hs).setCell _ c5 hs).setCell _ c6 hs
  refine ⟨v', h1.kept' (hK w1 (fun k => k = w.heap.size + 1) (Kept.refl _ _) (fun _ => rfl)) (by omega) (fun hx k hk e => ?_), h2, hK w _ ?_ (by omega)⟩
  · exact told0_apart hbox h1.2 hx (by rw [hk, e])
  · exact (((Kept.refl w _).alloc o).alloc o').trans h3 (fun _ _ e => e)

theorem heap_set {w : World} {b i : Nat} {cs : Array Value} {t : TypeId} {fr : Nat × Nat} (c : Value) (h : w.heap[b]? = some (.cells cs t fr)) : (w.setCell ⟨b, i, none⟩ c).heap[b]? = some (.cells (cs.setIfInBounds i c) t fr) := by
  rw [setCell_eq_setRow w b i cs t fr c h]
  exact setRow_heap w b cs _ t fr h

theorem told_size : (Tryz.prog.info? 76).map (·.size) = some 7 := by kernel_rfl

theorem results_cell1 {fn : Func} {p : Tmp} {ty : TypeId} (h : fn.results = #[.cell p ty]) (tmps : Array Value) (P : Program) (w : World) :
    (results fn tmps).run P w = ((asAddr (tmps.getD p undef)).run P w).andThen fun a w₁ => (loadVar ty a).run P w₁ := by
  simp only [results, h]
  simp [Sem.run_bind, Result.andThen]

theorem got {R : Ending → World → Prop} {a : Act} {w1 : World} {b : Nat} {d0 d1 d2 d3 d4 d5 d6 : Value} (c0 c1 c2 c3 c4 c5 c6 : Value) (hbox : w1.heap[b]? = some (.cells #[d0, d1, d2, d3, d4, d5, d6] 76 (0, 0)))
    (h4 : a.tmps.getD 4 undef = .pointer (some ⟨b, 0, none⟩)) (hd : a.defers = [])
    (hR : R (.returned (.agg #[c0, c1, c2, c3, c4, c5, c6])) (((((((w1.setCell ⟨b, 0, none⟩ c0).setCell ⟨b, 1, none⟩ c1).setCell ⟨b, 2, none⟩ c2).setCell ⟨b, 3, none⟩ c3).setCell ⟨b, 4, none⟩ c4).setCell ⟨b, 5, none⟩ c5).setCell ⟨b, 6, none⟩ c6)) :
    bodyPost Tryz.prog Tryz.f19 R .ret a (((((((w1.setCell ⟨b, 0, none⟩ c0).setCell ⟨b, 1, none⟩ c1).setCell ⟨b, 2, none⟩ c2).setCell ⟨b, 3, none⟩ c3).setCell ⟨b, 4, none⟩ c4).setCell ⟨b, 5, none⟩ c5).setCell ⟨b, 6, none⟩ c6) := by
  have hrow := heap_set (i := 6) c6 (heap_set (i := 5) c5 (heap_set (i := 4) c4 (heap_set (i := 3) c3 (heap_set (i := 2) c2 (heap_set (i := 1) c1 (heap_set (i := 0) c0 hbox))))))
  have e : (((((((#[d0, d1, d2, d3, d4, d5, d6].setIfInBounds 0 c0).setIfInBounds 1 c1).setIfInBounds 2 c2).setIfInBounds 3 c3).setIfInBounds 4 c4).setIfInBounds 5 c5).setIfInBounds 6 c6) = #[c0, c1, c2, c3, c4, c5, c6] := by
    simp
  rw [e] at hrow
  refine bodyPost_ret (v := .agg #[c0, c1, c2, c3, c4, c5, c6]) ?_ hd hR
  have hl := run_loadVar_row (P := Tryz.prog) _ b _ 76 _ _ _ hrow Tryz.underlying76 rfl told_size
  rw [results_cell1 Tryz.results19, h4]
  simp only [asAddr, Sem.run_pure, Result.andThen_ok, hl]

theorem wrap64_id {n : Int} (h0 : -9223372036854775808 ≤ n) (h1 : n ≤ 9223372036854775807) : wrap64 n = n := by unfold wrap64; omega
theorem i8_64 (n : Int) : wrap64 (IntKind.i8.wrap n) = IntKind.i8.wrap n := by
  have := wrap8_bd n
  exact wrap64_id (by omega) (by omega)
theorem d32_64 (n : Int) : wrap64 (down32 n) = down32 n := wrap64_id (by unfold down32 wrap32; omega) (by unfold down32 wrap32; omega)

theorem bound_any (n : Int) (w : World) : Calls Tryz.prog 37 #[.int .i64 n] w fun e w' => e = .returned (.int .i64 n) ∧ w' = w := by
  go_enter Tryz.func37, Tryz.ntmps37
  go_wp2
  go_ret
  exact ⟨rfl, rfl⟩

theorem Cut.told {w1 : World} {v u : Value} {ys : List Int} {b : Nat} (h : Cut w1 v u ys) (hbox : w1.heap[b]? = some told0) (c0 c1 c2 c3 c4 c5 c6 : Value) :
    Cut (((((((w1.setCell ⟨b, 0, none⟩ c0).setCell ⟨b, 1, none⟩ c1).setCell ⟨b, 2, none⟩ c2).setCell ⟨b, 3, none⟩ c3).setCell ⟨b, 4, none⟩ c4).setCell ⟨b, 5, none⟩ c5).setCell ⟨b, 6, none⟩ c6) v u ys := by
  refine ⟨?_, h.2⟩
  have hs : b < w1.heap.size → (fun k => k = b) b := fun _ => rfl
  refine h.1.kept' (S := fun k => k = b) (((((((((Kept.refl w1 (fun k => k = b)).setCell ⟨b, 0, none⟩ c0 hs).setCell ⟨b, 1, none⟩ c1 hs).setCell ⟨b, 2, none⟩ c2 hs).setCell ⟨b, 3, none⟩ c3 hs).setCell ⟨b, 4, none⟩ c4 hs).setCell ⟨b, 5, none⟩ c5 hs).setCell ⟨b, 6, none⟩ c6 hs)) (fun hx k hk e => ?_)
  exact told0_apart hbox h.1 hx (by rw [hk, e])

section
variable (g : Nat) (v : Value) (xs : List Int) (f on n : Int) (x : Nat) (s : ByteArray) (ao : Option Addr) (l cap : Nat) (w : World)

set_option maxHeartbeats 400000 in
theorem get_bool (h : IsR w g v xs f) (hb : Byts xs) :
    Calls Tryz.prog 19 #[.pointer (some ⟨g, 0, none⟩), opv 1 on n x s (.slice ao l cap)] w fun e w' => e = .returned (.agg (told ((rdBool xs f).out == 1) 0 0 ⟨#[]⟩ (.slice none 0 0) 0 0)) ∧ ReadsTo w g v (rdBool xs f) w' := by
  have hsf := store_float
  have H : Hid (IsR w g v xs f ∧ Byts xs) := ⟨h, hb⟩
  clear h hb
  go_enter Tryz.func19, Tryz.ntmps19
  go_wp2_with fail
  refine (rBool_any g v xs f _ ((H.out.1.alloc _).alloc _) H.out.2).mono ?_
  rintro e w1 ⟨rfl, hp⟩
  have hbox := told_kept H.out.1 hp
  obtain ⟨k0, k1, k2, k3, k4, k5, k6, kf⟩ := row7 hbox
  have HP : Hid (ReadsTo ((w.alloc (opc 1 on n x s (.slice ao l cap))).alloc told0) g v (rdBool xs f) w1) := hp
  clear hp
  go_wp2
  exact got _ _ _ _ _ _ _ hbox rfl rfl ⟨rfl, HP.out.told (lt_of_block H.out.1.1) hbox _ _ _ _ _ _ _⟩

set_option maxHeartbeats 400000 in
theorem get_int8 (h : IsR w g v xs f) (hb : Byts xs) :
    Calls Tryz.prog 19 #[.pointer (some ⟨g, 0, none⟩), opv 2 on n x s (.slice ao l cap)] w fun e w' => e = .returned (.agg (told false (IntKind.i8.wrap (rdNum 1 xs f).out) 0 ⟨#[]⟩ (.slice none 0 0) 0 0)) ∧ ReadsTo w g v (rdNum 1 xs f) w' := by
  have hsf := store_float
  have H : Hid (IsR w g v xs f ∧ Byts xs) := ⟨h, hb⟩
  clear h hb
  have hid := i8_64 (rdNum 1 xs f).out
  go_enter Tryz.func19, Tryz.ntmps19
  go_wp2_with fail
  refine (rInt8_any g v xs f _ ((H.out.1.alloc _).alloc _) H.out.2).mono ?_
  rintro e w1 ⟨rfl, hp⟩
  have hbox := told_kept H.out.1 hp
  obtain ⟨k0, k1, k2, k3, k4, k5, k6, kf⟩ := row7 hbox
  have HP : Hid (ReadsTo ((w.alloc (opc 2 on n x s (.slice ao l cap))).alloc told0) g v (rdNum 1 xs f) w1) := hp
  clear hp
  go_wp2
  exact got _ _ _ _ _ _ _ hbox rfl rfl ⟨rfl, HP.out.told (lt_of_block H.out.1.1) hbox _ _ _ _ _ _ _⟩

set_option maxHeartbeats 400000 in
theorem get_int32 (h : IsR w g v xs f) (hb : Byts xs) :
    Calls Tryz.prog 19 #[.pointer (some ⟨g, 0, none⟩), opv 3 on n x s (.slice ao l cap)] w fun e w' => e = .returned (.agg (told false (down32 (rdNum 4 xs f).out) 0 ⟨#[]⟩ (.slice none 0 0) 0 0)) ∧ ReadsTo w g v (rdNum 4 xs f) w' := by
  have hsf := store_float
  have H : Hid (IsR w g v xs f ∧ Byts xs) := ⟨h, hb⟩
  clear h hb
  have hid := d32_64 (rdNum 4 xs f).out
  go_enter Tryz.func19, Tryz.ntmps19
  go_wp2_with fail
  refine (rInt32_any g v xs f _ ((H.out.1.alloc _).alloc _) H.out.2).mono ?_
  rintro e w1 ⟨rfl, hp⟩
  have hbox := told_kept H.out.1 hp
  obtain ⟨k0, k1, k2, k3, k4, k5, k6, kf⟩ := row7 hbox
  have HP : Hid (ReadsTo ((w.alloc (opc 3 on n x s (.slice ao l cap))).alloc told0) g v (rdNum 4 xs f) w1) := hp
  clear hp
  go_wp2
  exact got _ _ _ _ _ _ _ hbox rfl rfl ⟨rfl, HP.out.told (lt_of_block H.out.1.1) hbox _ _ _ _ _ _ _⟩

set_option maxHeartbeats 400000 in
theorem get_uint32 (h : IsR w g v xs f) (hb : Byts xs) :
    Calls Tryz.prog 19 #[.pointer (some ⟨g, 0, none⟩), opv 4 on n x s (.slice ao l cap)] w fun e w' => e = .returned (.agg (told false (rdNum 4 xs f).out 0 ⟨#[]⟩ (.slice none 0 0) 0 0)) ∧ ReadsTo w g v (rdNum 4 xs f) w' := by
  have hsf := store_float
  have H : Hid (IsR w g v xs f ∧ Byts xs) := ⟨h, hb⟩
  clear h hb
  have hid : wrap64 (rdNum 4 xs f).out = (rdNum 4 xs f).out := by
    have := rdNum_bd 4 xs f H.out.2
    have h4 : (256 : Int) ^ 4 = 4294967296 := by decide
    rw [h4] at this
    exact wrap64_id (by omega) (by omega)
  go_enter Tryz.func19, Tryz.ntmps19
  go_wp2_with fail
  refine (rUint32_any g v xs f _ ((H.out.1.alloc _).alloc _) H.out.2).mono ?_
  rintro e w1 ⟨rfl, hp⟩
  have hbox := told_kept H.out.1 hp
  obtain ⟨k0, k1, k2, k3, k4, k5, k6, kf⟩ := row7 hbox
  have HP : Hid (ReadsTo ((w.alloc (opc 4 on n x s (.slice ao l cap))).alloc told0) g v (rdNum 4 xs f) w1) := hp
  clear hp
  go_wp2
  exact got _ _ _ _ _ _ _ hbox rfl rfl ⟨rfl, HP.out.told (lt_of_block H.out.1.1) hbox _ _ _ _ _ _ _⟩

set_option maxHeartbeats 400000 in
theorem get_int64 (h : IsR w g v xs f) (hb : Byts xs) :
    Calls Tryz.prog 19 #[.pointer (some ⟨g, 0, none⟩), opv 5 on n x s (.slice ao l cap)] w fun e w' => e = .returned (.agg (told false (wrap64 (rdNum 8 xs f).out) 0 ⟨#[]⟩ (.slice none 0 0) 0 0)) ∧ ReadsTo w g v (rdNum 8 xs f) w' := by
  have hsf := store_float
  have H : Hid (IsR w g v xs f ∧ Byts xs) := ⟨h, hb⟩
  clear h hb
  go_enter Tryz.func19, Tryz.ntmps19
  go_wp2_with fail
  refine (rInt64_any g v xs f _ ((H.out.1.alloc _).alloc _) H.out.2).mono ?_
  rintro e w1 ⟨rfl, hp⟩
  have hbox := told_kept H.out.1 hp
  obtain ⟨k0, k1, k2, k3, k4, k5, k6, kf⟩ := row7 hbox
  have HP : Hid (ReadsTo ((w.alloc (opc 5 on n x s (.slice ao l cap))).alloc told0) g v (rdNum 8 xs f) w1) := hp
  clear hp
  go_wp2
  exact got _ _ _ _ _ _ _ hbox rfl rfl ⟨rfl, HP.out.told (lt_of_block H.out.1.1) hbox _ _ _ _ _ _ _⟩

set_option maxHeartbeats 400000 in
theorem get_float (h : IsR w g v xs f) (hb : Byts xs) :
    Calls Tryz.prog 19 #[.pointer (some ⟨g, 0, none⟩), opv 6 on n x s (.slice ao l cap)] w fun e w' => e = .returned (.agg (told false 0 (rdFloat xs f).out.toNat ⟨#[]⟩ (.slice none 0 0) 0 0)) ∧ ReadsTo w g v (rdFloat xs f) w' := by
  have hsf := store_float
  have H : Hid (IsR w g v xs f ∧ Byts xs) := ⟨h, hb⟩
  clear h hb
  go_enter Tryz.func19, Tryz.ntmps19
  go_wp2_with fail
  refine (rFloat_any g v xs f _ ((H.out.1.alloc _).alloc _) H.out.2).mono ?_
  rintro e w1 ⟨rfl, hp⟩
  have hbox := told_kept H.out.1 hp
  obtain ⟨k0, k1, k2, k3, k4, k5, k6, kf⟩ := row7 hbox
  have HP : Hid (ReadsTo ((w.alloc (opc 6 on n x s (.slice ao l cap))).alloc told0) g v (rdFloat xs f) w1) := hp
  clear hp
  go_wp2
  exact got _ _ _ _ _ _ _ hbox rfl rfl ⟨rfl, HP.out.told (lt_of_block H.out.1.1) hbox _ _ _ _ _ _ _⟩

set_option maxHeartbeats 400000 in
theorem get_text (h : IsR w g v xs f) (hb : Byts xs) :
    Calls Tryz.prog 19 #[.pointer (some ⟨g, 0, none⟩), opv 7 on n x s (.slice ao l cap)] w fun e w' => e = .returned (.agg (told false 0 0 (strOfNums (rdBuf n xs f).1) (.slice none 0 0) 0 0)) ∧ ReadsTo w g v ((rdBuf n xs f).2) w' := by
  have hsf := store_float
  have H : Hid (IsR w g v xs f ∧ Byts xs) := ⟨h, hb⟩
  clear h hb
  go_enter Tryz.func19, Tryz.ntmps19
  go_wp2_with fail
  refine (bound_any n _).mono ?_
  rintro e w0 ⟨rfl, rfl⟩
  go_wp2_with fail
  refine (rText_any g v xs f _ n ((H.out.1.alloc _).alloc _) H.out.2).mono ?_
  rintro e w1 ⟨rfl, hp⟩
  have hbox := told_kept H.out.1 hp
  obtain ⟨k0, k1, k2, k3, k4, k5, k6, kf⟩ := row7 hbox
  have HP : Hid (ReadsTo ((w.alloc (opc 7 on n x s (.slice ao l cap))).alloc told0) g v ((rdBuf n xs f).2) w1) := hp
  clear hp
  go_wp2
  exact got _ _ _ _ _ _ _ hbox rfl rfl ⟨rfl, HP.out.told (lt_of_block H.out.1.1) hbox _ _ _ _ _ _ _⟩

set_option maxHeartbeats 400000 in
theorem get_buffer (h : IsR w g v xs f) (hb : Byts xs) :
    Calls Tryz.prog 19 #[.pointer (some ⟨g, 0, none⟩), opv 8 on n x s (.slice ao l cap)] w fun e w' => ∃ u, e = .returned (.agg (told false 0 0 ⟨#[]⟩ u 0 0)) ∧ Cut w' v u (rdBuf n xs f).1 ∧ ReadsTo w g v (rdBuf n xs f).2 w' := by
  have hsf := store_float
  have H : Hid (IsR w g v xs f ∧ Byts xs) := ⟨h, hb⟩
  clear h hb
  go_enter Tryz.func19, Tryz.ntmps19
  go_wp2_with fail
  refine (bound_any n _).mono ?_
  rintro e w0 ⟨rfl, rfl⟩
  go_wp2_with fail
  refine (rBuffer_any g v xs f _ n ((H.out.1.alloc _).alloc _) H.out.2).mono ?_
  rintro e w1 ⟨u, rfl, hc, hp⟩
  have hbox := told_kept H.out.1 hp
  obtain ⟨k0, k1, k2, k3, k4, k5, k6, kf⟩ := row7 hbox
  obtain ⟨ua, hu⟩ := hc.2.1
  generalize hq : (rdBuf n xs f).1.length = q at hu
  subst hu
  have HP : Hid (Cut w1 v (.slice ua q q) (rdBuf n xs f).1 ∧ ReadsTo ((w.alloc (opc 8 on n x s (.slice ao l cap))).alloc told0) g v (rdBuf n xs f).2 w1) := ⟨hc, hp⟩
  clear hp hc hq
  go_wp2
  exact got _ _ _ _ _ _ _ hbox rfl rfl ⟨_, rfl, HP.out.1.told hbox _ _ _ _ _ _ _, HP.out.2.told (lt_of_block H.out.1.1) hbox _ _ _ _ _ _ _⟩

set_option maxHeartbeats 400000 in
theorem get_raw (h : IsR w g v xs f) (hb : Byts xs) :
    Calls Tryz.prog 19 #[.pointer (some ⟨g, 0, none⟩), opv 9 on n x s (.slice ao l cap)] w fun e w' => ∃ u, e = .returned (.agg (told false 0 0 ⟨#[]⟩ u 0 0)) ∧ Cut w' v u (rdRaw n xs f).1 ∧ ReadsTo w g v (rdRaw n xs f).2 w' := by
  have hsf := store_float
  have H : Hid (IsR w g v xs f ∧ Byts xs) := ⟨h, hb⟩
  clear h hb
  go_enter Tryz.func19, Tryz.ntmps19
  go_wp2_with fail
  refine (bound_any n _).mono ?_
  rintro e w0 ⟨rfl, rfl⟩
  go_wp2_with fail
  refine (rRaw_any g v xs f _ n ((H.out.1.alloc _).alloc _)).mono ?_
  rintro e w1 ⟨u, rfl, hc, hp⟩
  have hbox := told_kept H.out.1 hp
  obtain ⟨k0, k1, k2, k3, k4, k5, k6, kf⟩ := row7 hbox
  obtain ⟨ua, hu⟩ := hc.2.1
  generalize hq : (rdRaw n xs f).1.length = q at hu
  subst hu
  have HP : Hid (Cut w1 v (.slice ua q q) (rdRaw n xs f).1 ∧ ReadsTo ((w.alloc (opc 9 on n x s (.slice ao l cap))).alloc told0) g v (rdRaw n xs f).2 w1) := ⟨hc, hp⟩
  clear hp hc hq
  go_wp2
  exact got _ _ _ _ _ _ _ hbox rfl rfl ⟨_, rfl, HP.out.1.told hbox _ _ _ _ _ _ _, HP.out.2.told (lt_of_block H.out.1.1) hbox _ _ _ _ _ _ _⟩

end
end Go.Proofs.YtblgipjipeaemaaGreatDoor
