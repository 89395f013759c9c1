/- getOne and GetList of package pack at requests that stand in a Multi, at bytes that were laid. -/
import Derived.Test.YtldcbabgommghaaGreatDoorWfFJ
import Derived.Test.YtldcbabgommghaaGreatDoorCopyTJ
namespace Go.Proofs.YtldcbabgommghaaGreatDoor
open Go.RowKit
set_option maxRecDepth 8000

theorem getDefRequest (p : Addr) (w : World) : CallsD Tryz.prog 177 #[.pointer (some p)] .returning w fun e u' w' => e = .returned (.tuple #[]) ∧ u' = .returning ∧ w' = w := by
  refine callsD_of_wpS Tryz.func177 rfl fun c₀ cs hu => ?_
  apply wpS_seq
  apply wpS_region
  simp [wpOpsS, go_sem, recoverD, hu, Tryz.ntmps177, Exit.thenS]
  refine wpS_cond (t := false) (by simp [Act.eval, Array.replicate]) ?_
  simp only [Bool.false_eq_true, if_false]
  refine wpS_of_wp (wp_skip ?_)
  cases c₀
  simp_all [bodyPostS, results, Tryz.results177]

theorem encIn_ne (r : Rq) (h : r.inOk = true) (rest : List Int) : encIn r ++ rest ≠ [] := by
  cases r with
  | mk f n ops =>
    rw [encIn_mk]
    repeat' split
    all_goals simp [encP]

set_option maxHeartbeats 1000000 in
theorem getOneRequest_bk (g : Nat) (v : Value) (r : Rq) (hok : r.inOk = true) (hgd : r.good) (rest : List Int) (w : World) (h : IsR w g v (encIn r ++ rest) 0) (hb : Byts (encIn r ++ rest)) (hn : Nam w) (hg0 : 1 < g) :
    Calls Tryz.prog 174 #[.pointer (some ⟨g, 0, none⟩), .func (.func 140) #[lay 5 320] #[]] w fun e w' => ∃ cs, e = .returned (.agg cs.toArray) ∧ cs.length = 11 ∧ RqIn w' (fun k => v.ownBlock = some k ∨ (w.heap.size ≤ k ∧ k < w'.heap.size)) cs r ∧ ReadsTo w g v ⟨0, rest, 0⟩ w' := by
  have H : Hid (IsR w g v (encIn r ++ rest) 0 ∧ Byts (encIn r ++ rest) ∧ g < w.heap.size ∧ Nam w) := ⟨h, hb, lt_of_block h.1, hn⟩
  have HVL : Hid (∀ k, v.ownBlock = some k → k < w.heap.size) := h.2.lt (encIn_ne r hok rest)
  clear h hb hn
  have hfn : ∀ w, (binOp .eql 156 (.func (.func 140) #[lay 5 320] #[]) .nilFunc).run Tryz.prog w = .ok (.bool false) w := fun _ => by kernel_rfl
  obtain ⟨V, eV⟩ : ∃ V, V = (w.alloc (.cells #[.pointer (some ⟨g, 0, none⟩)] 109)).alloc (.cells #[.int .i8 0, .string ⟨#[]⟩, .slice none 0 0, .slice none 0 0, .int .i32 0, .bool false, .bool false, .int .i64 0, .int .i32 0, .slice none 0 0, .slice none 0 0] 35) := ⟨_, rfl⟩
  have HV : Hid (Kept w V (fun _ => False) ∧ V.heap[w.heap.size + 1]? = some (.cells #[.int .i8 0, .string ⟨#[]⟩, .slice none 0 0, .slice none 0 0, .int .i32 0, .bool false, .bool false, .int .i64 0, .int .i32 0, .slice none 0 0, .slice none 0 0] 35 (0, 0)) ∧ V.heap.size = w.heap.size + 2) := by
    subst eV
    exact ⟨((Kept.refl w _).alloc _).alloc _, by have := heap_alloc_new (w.alloc (.cells #[.pointer (some ⟨g, 0, none⟩)] 109)) (.cells #[.int .i8 0, .string ⟨#[]⟩, .slice none 0 0, .slice none 0 0, .int .i32 0, .bool false, .bool false, .int .i64 0, .int .i32 0, .slice none 0 0, .slice none 0 0] 35); simpa using this, by simp⟩
  have HE : Hid _ := eV
  have HX := getIn_bk r hok hgd g v rest V (H.out.1.kept HV.out.1 (fun h => h) (fun _ _ h => h)) H.out.2.1 (nam_kept H.out.2.2.2 HV.out.1 (fun _ _ h => h)) hg0
  clear eV
  go_enter_defers Tryz.func174, Tryz.ntmps174
  go_wp2_with fail
  rw [← HE.out]
  clear HE
  refine Calls.mono HX ?_
  clear HX
  rintro _ w2 ⟨cs, rfl, hcl, hrq, hr⟩
  obtain ⟨q0, q1, d0, d1, d2, a0, a1, a2, q4, q5, q6, q7, q8, e0, e1, e2, o0, o1, o2, rfl⟩ := rq_forms hrq.sees
  have H2 : Hid (ReadsTo w g v ⟨0, rest, 0⟩ w2 ∧ RqIn w2 (fun k => v.ownBlock = some k ∨ (V.heap.size ≤ k ∧ k < w2.heap.size)) [.int .i8 q0, .string q1, .slice d0 d1 d2, .slice a0 a1 a2, .int .i32 q4, .bool q5, .bool q6, .int .i64 q7, .int .i32 q8, .slice e0 e1 e2, .slice o0 o1 o2] r) := ⟨ReadsTo.next (HV.out.1.mono (fun _ _ h => h.elim)) (fun _ h => h) hr, hrq⟩
  obtain ⟨v2, _, _, a3⟩ := hr
  have hst := a3.heap HV.out.2.1 (by have := H.out.2.2.1; omega)
  have HS2 : Hid (V.heap.size ≤ w2.heap.size) := a3.size
  clear a3 hrq hcl
  have hrow := setRow_heap w2 (w.heap.size + 1) _ #[.int .i8 q0, .string q1, .slice d0 d1 d2, .slice a0 a1 a2, .int .i32 q4, .bool q5, .bool q6, .int .i64 q7, .int .i32 q8, .slice e0 e1 e2, .slice o0 o1 o2] _ _ hst
  have hk : Kept w2 (w2.setRow (w.heap.size + 1) #[.int .i8 q0, .string q1, .slice d0 d1 d2, .slice a0 a1 a2, .int .i32 q4, .bool q5, .bool q6, .int .i64 q7, .int .i32 q8, .slice e0 e1 e2, .slice o0 o1 o2]) (fun k => k = w.heap.size + 1) := ⟨rfl, rfl, rfl, by simp, fun k _ hn => setRow_other _ _ _ _ hn⟩
  have HF : Hid _ := And.intro hrow hk
  clear hrow hk
  go_wp2_with (refine wpList_store_row rfl 35 _ _ rfl (w.heap.size + 1) #[.int .i8 q0, .string q1, .slice d0 d1 d2, .slice a0 a1 a2, .int .i32 q4, .bool q5, .bool q6, .int .i64 q7, .int .i32 q8, .slice e0 e1 e2, .slice o0 o1 o2] rfl rfl 35 _ hst rq_size rfl (by simp [Value.oneCell']) ?_)
  obtain ⟨hrow, hk⟩ := HF.out
  have hrd : ReadsTo w g v ⟨0, rest, 0⟩ (w2.setRow (w.heap.size + 1) #[.int .i8 q0, .string q1, .slice d0 d1 d2, .slice a0 a1 a2, .int .i32 q4, .bool q5, .bool q6, .int .i64 q7, .int .i32 q8, .slice e0 e1 e2, .slice o0 o1 o2]) := H2.out.1.aside hk (fun k e => by omega) (by have := H.out.2.2.1; omega) (fun k e => by have := HVL.out k e; omega)
  have hrq : RqIn (w2.setRow (w.heap.size + 1) #[.int .i8 q0, .string q1, .slice d0 d1 d2, .slice a0 a1 a2, .int .i32 q4, .bool q5, .bool q6, .int .i64 q7, .int .i32 q8, .slice e0 e1 e2, .slice o0 o1 o2]) (fun k => v.ownBlock = some k ∨ (w.heap.size ≤ k ∧ k < (w2.setRow (w.heap.size + 1) #[.int .i8 q0, .string q1, .slice d0 d1 d2, .slice a0 a1 a2, .int .i32 q4, .bool q5, .bool q6, .int .i64 q7, .int .i32 q8, .slice e0 e1 e2, .slice o0 o1 o2]).heap.size)) [.int .i8 q0, .string q1, .slice d0 d1 d2, .slice a0 a1 a2, .int .i32 q4, .bool q5, .bool q6, .int .i64 q7, .int .i32 q8, .slice e0 e1 e2, .slice o0 o1 o2] r := RqIn.kept hk (fun k hq => by
    rcases hq with e | ⟨e1, e2⟩
    · exact ⟨by have := HVL.out k e; omega, .inl e⟩
    · exact ⟨by have := HV.out.2.2; omega, .inr ⟨by have := HV.out.2.2; omega, by simpa using e2⟩⟩) H2.out.2
  refine leaves_cons (f := 177) (args := #[.pointer (some ⟨w.heap.size, 0, none⟩)]) (by simp) (by simp [go_sem]) ?_
  refine (getDefRequest _ _).mono ?_
  rintro e u' w'' ⟨rfl, rfl, rfl⟩
  refine ⟨.agg #[.int .i8 q0, .string q1, .slice d0 d1 d2, .slice a0 a1 a2, .int .i32 q4, .bool q5, .bool q6, .int .i64 q7, .int .i32 q8, .slice e0 e1 e2, .slice o0 o1 o2], ?_, _, rfl, rfl, hrq, hrd⟩
  exact results_cell_row Tryz.results174 _ _ (w.heap.size + 1) 35 _ (0, 0) _ rfl hrow Tryz.underlying35 rfl rq_size
end Go.Proofs.YtldcbabgommghaaGreatDoor

/- GetList of package pack at requests that stand in a Multi, at bytes that were laid. -/
namespace Go.Proofs.YtldcbabgommghaaGreatDoor
open Go.RowKit
set_option maxRecDepth 8000

/-- The bytes of inner requests from the k-th on. -/
def opsR {n : Nat} (ops : Fin n → Rq) (k : Nat) : List Int := ((List.ofFn fun i : Fin n => encIn (ops i)).drop k).flatten
theorem opsR_at {n : Nat} (ops : Fin n → Rq) (k : Nat) (h : k < n) (rest : List Int) : opsR ops k ++ rest = encIn (ops ⟨k, h⟩) ++ (opsR ops (k + 1) ++ rest) := by
  unfold opsR
  rw [List.drop_eq_getElem_cons (by simpa using h), List.flatten_cons, List.append_assoc]
  simp
theorem opsR_all {n : Nat} (ops : Fin n → Rq) : opsR ops 0 = opsB ops n := by
  unfold opsR opsB
  rw [List.drop_zero, List.take_of_length_le (by simp)]
theorem opsR_end {n : Nat} (ops : Fin n → Rq) : opsR ops n = [] := by
  unfold opsR
  rw [List.drop_eq_nil_of_le (by simp)]
  rfl
theorem opsR_least {n : Nat} (ops : Fin n → Rq) (hok : ∀ i, (ops i).inOk = true) : ∀ m k, n - k = m → m ≤ (opsR ops k).length
  | 0, _, _ => Nat.zero_le _
  | m + 1, k, h => by
    have h1 := opsR_least ops hok m (k + 1) (by omega)
    have h2 := opsR_at ops k (by omega) []
    simp only [List.append_nil] at h2
    have h3 : 1 ≤ (encIn (ops ⟨k, by omega⟩)).length := by
      have := encIn_ne (ops ⟨k, by omega⟩) (hok _) []
      rw [List.append_nil] at this
      exact List.length_pos_iff.2 this
    rw [h2, List.length_append]
    omega
theorem opsR_byts {n : Nat} (ops : Fin n → Rq) (k : Nat) {rest : List Int} (h : Byts (opsR ops 0 ++ rest)) : Byts (opsR ops k ++ rest) := fun x hx => h x (by
  rcases List.mem_append.1 hx with hx | hx
  · refine List.mem_append.2 (.inl ?_)
    unfold opsR at hx ⊢
    obtain ⟨y, hy, hxy⟩ := List.mem_flatten.1 hx
    exact List.mem_flatten.2 ⟨y, by rw [List.drop_zero]; exact List.mem_of_mem_drop hy, hxy⟩
  · exact List.mem_append.2 (.inr hx))

/-- What stands behind the first k inner requests. -/
structure GR (w W : World) (g : Nat) (v lv : Value) {n : Nat} (ops : Fin n → Rq) (k : Nat) (rest : List Int) (cs : List (List Value)) : Prop where
  len : cs.length = k
  z : ∀ c ∈ cs, c.length = 11
  own : W.ownsRow w.heap.size 35 11 lv k cs.flatten
  rq : ∀ i (hi : i < cs.length) (h : i < n), RqIn W (fun j => (v.ownBlock = some j ∨ (w.heap.size ≤ j ∧ j < W.heap.size)) ∧ lv.ownBlock ≠ some j) cs[i] (ops ⟨i, h⟩)
  rd : ReadsTo w g v ⟨0, opsR ops k ++ rest, 0⟩ W

set_option maxHeartbeats 2000000 in
theorem getListRequest_bk (g : Nat) (v : Value) (n : Nat) (ops : Fin n → Rq) (hok : ∀ i, (ops i).inOk = true) (hgd : ∀ i, (ops i).good) (rest : List Int) (w : World) (h : IsR w g v ((be4 n ++ opsB ops n) ++ rest) 0) (hb : Byts ((be4 n ++ opsB ops n) ++ rest)) (hn8 : n ≤ 8) (hn : Nam w) (hg0 : 1 < g) :
    Calls Tryz.prog 162 #[.pointer (some ⟨g, 0, none⟩), .int .i64 8, .func (.func 140) #[lay 5 320] #[]] w fun e w' => ∃ u cs, e = .returned u ∧ GR w w' g v u ops n rest cs := by
  rw [← opsR_all ops, List.append_assoc] at h hb
  have ha : ahead (be4 n ++ (opsR ops 0 ++ rest)) = n := bk_ahead (by omega)
  have hle := opsR_least ops hok n 0 (by omega)
  have hlen : (be4 (n : Int) ++ (opsR ops 0 ++ rest)).length = 4 + ((opsR ops 0).length + rest.length) := by rw [List.length_append, List.length_append]; rfl
  have H : Hid (IsR w g v (be4 n ++ (opsR ops 0 ++ rest)) 0 ∧ Byts (be4 n ++ (opsR ops 0 ++ rest)) ∧ g < w.heap.size ∧ (∀ k, v.ownBlock = some k → k < w.heap.size) ∧ Nam w) := ⟨h, hb, lt_of_block h.1, h.2.lt (by simp [be4]), hn⟩
  have HV2 : ∀ j, v.ownBlock = some j → j = g → False := fun j e e' => h.apart (by simp [be4]) (e' ▸ e)
  have HSZ := rSize_ok g v _ 8 w h hb (by omega) (by rw [ha]; omega) (by rw [ha]; omega) (by rw [ha, hlen]; omega)
  rw [ha] at HSZ
  have HSK := rSkip_ok g v _ 4 0 w h (by omega)
  have hsk : ReadsTo w g v ⟨0, opsR ops 0 ++ rest, 0⟩ (w.setCell ⟨g, 1, none⟩ (cutFrom v 4)) := by
    have := ReadsTo.skip (x := 0) (n := 4) h (by omega)
    rw [bk_drop (n := 4) rfl] at this
    exact this
  have HK : Hid _ := hsk
  obtain ⟨i0, hi, hz0, hz1, hz2⟩ := info_parts Tryz.infoRq
  clear h hb hsk ha hlen hn
  go_enter Tryz.func162, Tryz.ntmps162
  go_wp2_with fail
  refine HSZ.mono ?_
  clear HSZ
  rintro e w1 ⟨rfl, rfl⟩
  go_wp2_with fail
  refine HSK.mono ?_
  clear HSK
  rintro e w2 ⟨rfl, rfl⟩
  go_wp2_with fail
  go_loopw [9, 10] (fun lv i wr => ∃ k : Nat, k ≤ n ∧ i = .int .i64 k ∧ Hid (∃ cs, GR w1 wr g v lv ops k rest cs)) (fun _ i _ => n - (intOf i).toNat)
  case atStart => exact ⟨0, Nat.zero_le _, rfl, [], rfl, fun c hc => by simp at hc, World.ownsRow_nil _ _ _ _, fun i hi => by simp at hi, HK.out⟩
  case round =>
    clear HK
    obtain ⟨k, hk, rfl, HR⟩ := hrel
    obtain ⟨cs, hgr⟩ := HR.out
    have HG : Hid (GR w1 wr g v u9 ops k rest cs) := hgr
    clear HR hgr
    obtain ⟨vk, a1, a2, a3⟩ := HG.out.rd
    have HA : Hid (IsR wr g vk (opsR ops k ++ rest) 0 ∧ (∀ k, vk.ownBlock = some k → v.ownBlock = some k) ∧ Kept w1 wr (· = g)) := ⟨a1, a2, a3⟩
    clear a1 a2 a3
    have HRD := rReads_any g vk _ 0 wr HA.out.1
    by_cases hlt : k < n
    · have hat := opsR_at ops k hlt rest
      have HON := getOneRequest_bk g vk (ops ⟨k, hlt⟩) (hok _) (hgd _) (opsR ops (k + 1) ++ rest) wr (by rw [← hat]; exact HA.out.1) (by rw [← hat]; exact opsR_byts ops k H.out.2.1.right) (nam_kept H.out.2.2.2.2 HA.out.2.2 (fun j hj e => by omega)) hg0
      have hsz := HA.out.2.2.size
      clear hat
      go_wp2_with fail
      refine HRD.mono ?_
      clear HRD
      rintro e w3 ⟨rfl, rfl⟩
      go_wp2_with fail
      refine HON.mono ?_
      clear HON
      rintro e w4 ⟨c, rfl, hcl, hrq, hr4⟩
      obtain ⟨q0, q1, d0, d1, d2, a0, a1, a2, q4, q5, q6, q7, q8, e0, e1, e2, o0, o1, o2, rfl⟩ := rq_forms hrq.sees
      have hk4 : Kept w3 w4 (· = g) := by obtain ⟨_, _, _, b3⟩ := hr4; exact b3
      have H4 : Hid (ReadsTo w1 g v ⟨0, opsR ops (k + 1) ++ rest, 0⟩ w4 ∧ w4.ownsRow w1.heap.size 35 11 u9 k cs.flatten ∧ (∀ i (hi : i < cs.length) (h : i < n), RqIn w4 (fun j => (v.ownBlock = some j ∨ (w1.heap.size ≤ j ∧ j < w4.heap.size)) ∧ u9.ownBlock ≠ some j) cs[i] (ops ⟨i, h⟩)) ∧ RqIn w4 (fun j => (v.ownBlock = some j ∨ (w1.heap.size ≤ j ∧ j < w4.heap.size)) ∧ u9.ownBlock ≠ some j) [.int .i8 q0, .string q1, .slice d0 d1 d2, .slice a0 a1 a2, .int .i32 q4, .bool q5, .bool q6, .int .i64 q7, .int .i32 q8, .slice e0 e1 e2, .slice o0 o1 o2] (ops ⟨k, hlt⟩)) := by
        refine ⟨ReadsTo.next HA.out.2.2 HA.out.2.1 hr4, ownsRow_kept HG.out.own hk4 (fun j e e' => by have h1 := (HG.out.own.lt j e).1; have h2 := H.out.2.2.1; omega), fun i hi h => RqIn.kept hk4 (fun j hj => ?_) (HG.out.rq i hi h), RqIn.kept (Kept.refl w4 (fun _ => False)) (fun j hj => ⟨fun e => e, ?_⟩) hrq⟩
        · obtain ⟨hj1, hj2⟩ := hj
          rcases hj1 with e | ⟨e1, e2⟩
          · exact ⟨fun e' => HV2 j e e', .inl e, hj2⟩
          · exact ⟨by have := H.out.2.2.1; omega, .inr ⟨e1, Nat.lt_of_lt_of_le e2 hk4.size⟩, hj2⟩
        · rcases hj with e | ⟨e1, e2⟩
          · exact ⟨.inl (HA.out.2.1 j e), fun e' => by have h1 := (HG.out.own.lt j e').1; have h2 := H.out.2.2.2.1 j (HA.out.2.1 j e); omega⟩
          · exact ⟨.inr ⟨by omega, e2⟩, fun e' => by have h1 := (HG.out.own.lt j e').2; omega⟩
      have HC : Hid (cs.length = k ∧ ∀ c ∈ cs, c.length = 11) := ⟨HG.out.len, HG.out.z⟩
      have hsz4 : w1.heap.size ≤ w4.heap.size := Nat.le_trans hsz hk4.size
      clear hr4 hk4 hrq HA HG hcl
      obtain ⟨ys, hys⟩ : ∃ ys, ys = cs.flatten := ⟨_, rfl⟩
      rw [← hys] at H4
      have HY : Hid _ := hys
      clear hys
      go_wp2_with (at_builtin; refine wpList_append_own_at _ rfl _ _ 33 rfl w1.heap.size 35 i0 _ 11 144 Tryz.underlying33 hi hz0 hz1 hz2 rfl (by decide) _ _ _ rfl (ownsRow_kept H4.out.2.1 ((Kept.refl w4 (fun _ => False)).alloc _) (fun _ _ h => h)) ⟨w4.heap.size, 0, none⟩ 1 1 [.int .i8 q0, .string q1, .slice d0 d1 d2, .slice a0 a1 a2, .int .i32 q4, .bool q5, .bool q6, .int .i64 q7, .int .i32 q8, .slice e0 e1 e2, .slice o0 o1 o2] rfl rfl ?c1 ?c2 ?c3 ?c4 ?c5 ?_)
      case c1 =>
        intro j u hj
        rw [addrAdd, Nat.zero_add, cell_of_row _ _ _ _ _ _ (heap_alloc_new _ _)]
        rw [← hj]
        simp
      case c2 =>
        intro u hu
        simp only [List.mem_cons, List.not_mem_nil, or_false] at hu
        rcases hu with rfl | rfl | rfl | rfl | rfl | rfl | rfl | rfl | rfl | rfl | rfl <;> rfl
      case c3 => unfold maxLen; omega
      case c4 => omega
      case c5 => simp; omega
      intro v' w5 hown' hgrow _ hbk
      have HR5 : Hid (GR w1 w5 g v v' ops (k + 1) rest (cs ++ [[.int .i8 q0, .string q1, .slice d0 d1 d2, .slice a0 a1 a2, .int .i32 q4, .bool q5, .bool q6, .int .i64 q7, .int .i32 q8, .slice e0 e1 e2, .slice o0 o1 o2]])) := by
        have hka := (Kept.refl w4 (fun _ => False)).alloc (.cells ([.int .i8 q0, .string q1, .slice d0 d1 d2, .slice a0 a1 a2, .int .i32 q4, .bool q5, .bool q6, .int .i64 q7, .int .i32 q8, .slice e0 e1 e2, .slice o0 o1 o2] : List Value).toArray 35)
        have hkg : Kept (w4.alloc (.cells ([.int .i8 q0, .string q1, .slice d0 d1 d2, .slice a0 a1 a2, .int .i32 q4, .bool q5, .bool q6, .int .i64 q7, .int .i32 q8, .slice e0 e1 e2, .slice o0 o1 o2] : List Value).toArray 35)) w5 (fun j => u9.ownBlock = some j) := ⟨hgrow.os, hgrow.tape, hgrow.output, hgrow.size, fun j hj hn => hgrow.block j hj (fun e => hn e.symm)⟩
        have hkk := (hka.mono (S' := fun j => u9.ownBlock = some j) (fun _ _ h => h.elim)).trans hkg (fun _ _ h => h)
        have hlo : ∀ j, u9.ownBlock = some j → w1.heap.size ≤ j := fun j e => (H4.out.2.1.lt j e).1
        have hF : ∀ j, ((v.ownBlock = some j ∨ (w1.heap.size ≤ j ∧ j < w4.heap.size)) ∧ u9.ownBlock ≠ some j) → ¬ (u9.ownBlock = some j) ∧ ((v.ownBlock = some j ∨ (w1.heap.size ≤ j ∧ j < w5.heap.size)) ∧ v'.ownBlock ≠ some j) := fun j ⟨h1, h2⟩ => by
          have hj4 : j < w4.heap.size := by
            rcases h1 with h1 | h1
            · have := H.out.2.2.2.1 j h1; omega
            · exact h1.2
          refine ⟨h2, ?_, fun e => ?_⟩
          · rcases h1 with h1 | h1
            · exact .inl h1
            · exact .inr ⟨h1.1, Nat.lt_of_lt_of_le h1.2 hkk.size⟩
          · rcases hbk with hb | hb
            · rw [hb] at e; exact h2 e
            · rw [hb] at e; simp at e; omega
        refine ⟨by simp [HC.out.1], fun c hc => ?_, ?_, fun i hi h => ?_, ?_⟩
        · rcases List.mem_append.1 hc with hc | hc
          · exact HC.out.2 c hc
          · rw [List.mem_singleton.1 hc]; rfl
        · rw [List.flatten_append, ← HY.out]
          simpa using hown'
        · by_cases hik : i < cs.length
          · rw [List.getElem_append_left hik]
            exact RqIn.kept hkk hF (H4.out.2.2.1 i hik h)
          · have hi' : i = k := by have := HC.out.1; simp at hi; omega
            subst hi'
            rw [List.getElem_append_right (by omega)]
            have := RqIn.kept hkk hF H4.out.2.2.2
            simpa using this
        · obtain ⟨v5, b1, b2, b3⟩ := H4.out.1
          exact ⟨v5, b1.kept hkk (fun e => by have := hlo g e; have := H.out.2.2.1; omega) (fun j e e' => by have h1 := hlo j e'; have h2 := H.out.2.2.2.1 j (b2 j e); omega), b2, b3.trans hkk (fun j hj e => by have := hlo j e; omega)⟩
      clear hown' hgrow H4 hbk
      go_wp2_with fail
      go_roundw
      case rel => exact ⟨k + 1, by omega, by go_num, _, HR5.out⟩
      case measure => simp [intOf]; omega
    · obtain rfl : k = n := by omega
      clear HA
      go_wp2_with fail
      refine HRD.mono ?_
      clear HRD
      rintro e w3 ⟨rfl, rfl⟩
      go_wp2_with fail
      go_ret
      exact ⟨_, cs, rfl, HG.out⟩
end Go.Proofs.YtldcbabgommghaaGreatDoor
