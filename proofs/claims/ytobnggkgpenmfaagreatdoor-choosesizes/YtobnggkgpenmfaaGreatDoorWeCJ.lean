/- Letters, has, ids, acl of the document's layer 4. -/
import Derived.Test.YtobnggkgpenmfaaGreatDoorChk3J
import Derived.Test.YtobnggkgpenmfaaGreatDoorWdAJ
import Derived.Test.YtobnggkgpenmfaaGreatDoorPutRJ
import Derived.Test.YtobnggkgpenmfaaGreatDoorWriteTJ
import Derived.Test.YtobnggkgpenmfaaGreatDoorRqLJ
namespace Go.Proofs.YtobnggkgpenmfaaGreatDoor
open Go.RowKit
set_option maxRecDepth 8000

/-- What a kind names, as the document's letters. -/
def lt4 (k : Int) : ByteArray :=
  if k = 1 then ⟨#[112, 100, 97, 102, 115, 119]⟩ else if k = 2 ∨ k = 5 then ⟨#[112, 118, 115, 119]⟩ else if k = 3 then ⟨#[112, 100, 118, 115, 119]⟩ else if k = 4 then ⟨#[112, 97, 118, 115, 119]⟩
  else if k = 6 then ⟨#[115, 119, 111]⟩ else if k = 7 then ⟨#[116]⟩ else if k = 8 then ⟨#[115]⟩ else if k = 9 ∨ k = 10 ∨ k = 11 ∨ k = 12 then ⟨#[112, 115, 119]⟩ else ⟨#[]⟩

theorem letters_any (k : Int) (w : World) : Calls Tryz.prog 86 #[.int .i8 k] w fun r w' => r = .returned (.string (lt4 k)) ∧ w' = w := by
  go_enter Tryz.func86, Tryz.ntmps86
  go_wp2
  all_goals (go_ret; refine ⟨?_, rfl⟩; unfold lt4; simp at *; simp [*])

/-- Does a text have a letter? -/
def hasB (s : ByteArray) (c : Int) : Bool := s.data.toList.any (fun b => decide ((b.toNat : Int) = c))

theorem hasB_true {s : ByteArray} {c : Int} {i : Nat} (h : i < s.size) (e : ((s[i]).toNat : Int) = c) : hasB s c = true := by
  unfold hasB
  rw [List.any_eq_true]
  refine ⟨s[i], ?_, by simpa using e⟩
  show s.data[i] ∈ s.data.toList
  simp
theorem hasB_false {s : ByteArray} {c : Int} (h : ∀ i (hi : i < s.size), ((s[i]).toNat : Int) ≠ c) : hasB s c = false := by
  unfold hasB
  rw [List.any_eq_false]
  intro b hb
  obtain ⟨i, hi, rfl⟩ := List.getElem_of_mem hb
  have : ((s.data[i]).toNat : Int) ≠ c := h i (by simpa using hi)
  simpa using this

set_option maxHeartbeats 1000000 in
theorem has_any (s : ByteArray) (c : Int) (w : World) (hs : s.size ≤ 1000) : Calls Tryz.prog 109 #[.string s, .int .u8 c] w fun r w' => r = .returned (.bool (hasB s c)) ∧ w' = w := by
  go_enter Tryz.func109, Tryz.ntmps109
  go_wp2
  go_loop [5] (fun i => ∃ k : Nat, k ≤ s.size ∧ i = .int .i64 k ∧ Hid (∀ j (hj : j < s.size), j < k → ((s[j]).toNat : Int) ≠ c)) (fun i => s.size - (intOf i).toNat)
  case atStart => exact ⟨0, Nat.zero_le _, rfl, fun j _ h => by omega⟩
  case round =>
    obtain ⟨k, hk, rfl, HN⟩ := hrel
    by_cases hlt : k < s.size
    · by_cases he : ((s[k]).toNat : Int) = c
      · have HT : Hid (hasB s c = true) := hasB_true hlt he
        have he' : (((s[k]).toNat : Int) == c) = true := by simpa using he
        go_wp2
        all_goals (go_ret; exact ⟨by rw [HT.out]; rfl, rfl⟩)
      · have HN2 : Hid (∀ j (hj : j < s.size), j < k + 1 → ((s[j]).toNat : Int) ≠ c) := fun j hj h => by
          by_cases e : j = k
          · subst e; exact he
          · exact HN.out j hj (by omega)
        have he' : (((s[k]).toNat : Int) == c) = false := by simpa using he
        go_wp2
        go_round
        case rel => exact ⟨k + 1, by omega, by go_num, HN2⟩
        case measure => simp [intOf]; omega
    · have HF : Hid (hasB s c = false) := hasB_false (fun i hi => HN.out i hi (by omega))
      go_wp2
      go_ret
      exact ⟨by rw [HF.out]; rfl, rfl⟩

set_option maxHeartbeats 1000000 in
theorem refIds_any (v : Value) (l : List IdD) (w : World) (h : SeesR w v 2 (l.map IdD.cells)) (hl : l.length ≤ 140737488355328) (hg : ∀ x ∈ l, x.scheme.size ≤ 140737488355328 ∧ x.name.size ≤ 140737488355328) :
    Calls Tryz.prog 111 #[v] w fun r w' => r = .returned (.bool (whoOk l)) ∧ w' = w := by
  obtain ⟨ao, cap, rfl, hlc, HC⟩ := cellsIW h
  have HG : Hid (∀ x ∈ l, x.scheme.size ≤ 140737488355328 ∧ x.name.size ≤ 140737488355328) := hg
  clear h hg
  go_enter Tryz.func111, Tryz.ntmps111
  go_wp2
  go_loop [3] (fun i => ∃ k : Nat, k ≤ l.length ∧ i = .int .i64 k ∧ Hid (∀ x ∈ l.take k, idOk x = true)) (fun i => l.length - (intOf i).toNat)
  case atStart => exact ⟨0, Nat.zero_le _, rfl, fun x hx => by simp at hx⟩
  case round =>
    obtain ⟨k, hk, rfl, HN⟩ := hrel
    by_cases hlt : k < l.length
    · obtain ⟨b, off, rfl, k0, k1⟩ := HC.out k hlt
      obtain ⟨g0, g1⟩ := HG.out l[k] (List.getElem_mem hlt)
      have HM : Hid (l[k] ∈ l ∧ l.take (k + 1) = l.take k ++ [l[k]]) := ⟨List.getElem_mem hlt, List.take_succ_eq_append_getElem hlt⟩
      clear HC HG
      generalize l[k] = x at *
      by_cases ho : idOk x = true
      · have hs : x.scheme.size ≤ 24 ∧ x.name.size ≤ 24 := by unfold idOk at ho; simpa using ho
        obtain ⟨hs0, hs1⟩ := hs
        have HN2 : Hid (∀ y ∈ l.take (k + 1), idOk y = true) := fun y hy => by
          rw [HM.out.2] at hy
          rcases List.mem_append.1 hy with h | h
          · exact HN.out y h
          · obtain rfl : y = x := by simpa using h
            exact ho
        clear HM HN ho
        go_wp2
        go_round
        case rel => exact ⟨k + 1, by omega, by go_num, HN2⟩
        case measure => simp [intOf]; omega
      · have HF : Hid (whoOk l = false) := by
          show _ = _
          unfold whoOk
          rw [Bool.and_eq_false_iff]
          right
          rw [List.all_eq_false]
          exact ⟨x, HM.out.1, ho⟩
        have hs : 24 < x.scheme.size ∨ (x.scheme.size ≤ 24 ∧ 24 < x.name.size) := by unfold idOk at ho; simp at ho; omega
        clear HM HN ho
        rcases hs with hs0 | ⟨hs0, hs1⟩
        · go_wp2
          go_ret
          exact ⟨by rw [HF.out]; rfl, rfl⟩
        · go_wp2
          go_ret
          exact ⟨by rw [HF.out]; rfl, rfl⟩
    · obtain rfl : k = l.length := by omega
      have HT : Hid (whoOk l = decide ((l.length : Int) ≤ 4)) := by
        show _ = _
        unfold whoOk
        have : l.all (fun x => idOk x) = true := by
          rw [List.all_eq_true]
          intro x hx
          exact HN.out x (by rw [List.take_length]; exact hx)
        rw [this, Bool.and_true]
      clear HC HG HN
      go_wp2
      go_ret
      exact ⟨by rw [HT.out]; first | rfl | simp, rfl⟩

set_option maxHeartbeats 1000000 in
theorem refAcl_any (v : Value) (l : List EnD) (w : World) (h : SeesR w v 3 (l.map EnD.cells)) (hl : l.length ≤ 140737488355328) (hg : ∀ x ∈ l, x.id.scheme.size ≤ 140737488355328 ∧ x.id.name.size ≤ 140737488355328) :
    Calls Tryz.prog 110 #[v] w fun r w' => r = .returned (.bool (aclOk l)) ∧ w' = w := by
  obtain ⟨ao, cap, rfl, hlc, HC⟩ := cellsEW h
  have HG : Hid (∀ x ∈ l, x.id.scheme.size ≤ 140737488355328 ∧ x.id.name.size ≤ 140737488355328) := hg
  clear h hg
  go_enter Tryz.func110, Tryz.ntmps110
  go_wp2
  go_loop [3] (fun i => ∃ k : Nat, k ≤ l.length ∧ i = .int .i64 k ∧ Hid (∀ x ∈ l.take k, idOk x.id = true)) (fun i => l.length - (intOf i).toNat)
  case atStart => exact ⟨0, Nat.zero_le _, rfl, fun x hx => by simp at hx⟩
  case round =>
    obtain ⟨k, hk, rfl, HN⟩ := hrel
    by_cases hlt : k < l.length
    · obtain ⟨b, off, rfl, k0, k1, k2⟩ := HC.out k hlt
      obtain ⟨g0, g1⟩ := HG.out l[k] (List.getElem_mem hlt)
      have HM : Hid (l[k] ∈ l ∧ l.take (k + 1) = l.take k ++ [l[k]]) := ⟨List.getElem_mem hlt, List.take_succ_eq_append_getElem hlt⟩
      clear HC HG
      generalize l[k] = x at *
      by_cases ho : idOk x.id = true
      · have hs : x.id.scheme.size ≤ 24 ∧ x.id.name.size ≤ 24 := by unfold idOk at ho; simpa using ho
        obtain ⟨hs0, hs1⟩ := hs
        have HN2 : Hid (∀ y ∈ l.take (k + 1), idOk y.id = true) := fun y hy => by
          rw [HM.out.2] at hy
          rcases List.mem_append.1 hy with h | h
          · exact HN.out y h
          · obtain rfl : y = x := by simpa using h
            exact ho
        clear HM HN ho
        go_wp2
        go_round
        case rel => exact ⟨k + 1, by omega, by go_num, HN2⟩
        case measure => simp [intOf]; omega
      · have HF : Hid (aclOk l = false) := by
          show _ = _
          unfold aclOk
          rw [Bool.and_eq_false_iff]
          right
          rw [List.all_eq_false]
          exact ⟨x, HM.out.1, ho⟩
        have hs : 24 < x.id.scheme.size ∨ (x.id.scheme.size ≤ 24 ∧ 24 < x.id.name.size) := by unfold idOk at ho; simp at ho; omega
        clear HM HN ho
        rcases hs with hs0 | ⟨hs0, hs1⟩
        · go_wp2
          go_ret
          exact ⟨by rw [HF.out]; rfl, rfl⟩
        · go_wp2
          go_ret
          exact ⟨by rw [HF.out]; rfl, rfl⟩
    · obtain rfl : k = l.length := by omega
      have HT : Hid (aclOk l = decide ((l.length : Int) ≤ 4)) := by
        show _ = _
        unfold aclOk
        have : l.all (fun x => idOk x.id) = true := by
          rw [List.all_eq_true]
          intro x hx
          exact HN.out x (by rw [List.take_length]; exact hx)
        rw [this, Bool.and_true]
      clear HC HG HN
      go_wp2
      go_ret
      exact ⟨by rw [HT.out]; first | rfl | simp, rfl⟩
end Go.Proofs.YtobnggkgpenmfaaGreatDoor

/- The document's bytes of a request, letter by letter: they are the program's. -/
namespace Go.Proofs.YtobnggkgpenmfaaGreatDoor
open Go.RowKit
set_option maxRecDepth 8000

/-- What a letter lays. -/
def encLet (inner : Bool) (f : RqF) (more : List Int) (c : Int) : List Int :=
  if c = 112 then txtB f.path else if c = 100 then be4 f.data.length ++ f.data else if c = 97 then be4 f.acl.length ++ acB f.acl else if c = 118 then be4 (up32 f.ver)
  else if c = 102 then [b2i f.eph] ++ [b2i f.seq] else if c = 115 then (if inner then [] else be8 (up64 f.ses)) else if c = 116 then be4 (up32 f.tmo)
  else if c = 119 then (if inner then [] else be4 f.who.length ++ idsB f.who) else if c = 111 then more else []

/-- What the first i letters lay. -/
def encTo (inner : Bool) (f : RqF) (more : List Int) (s : ByteArray) (i : Nat) : List Int := (s.data.toList.take i).flatMap fun b => encLet inner f more (b.toNat : Int)

theorem encTo_next (inner : Bool) (f : RqF) (more : List Int) (s : ByteArray) (i : Nat) (h : i < s.size) : encTo inner f more s (i + 1) = encTo inner f more s i ++ encLet inner f more ((s[i]).toNat : Int) := by
  have h' : i < s.data.toList.length := by simpa using h
  unfold encTo
  rw [List.take_succ_eq_append_getElem h', List.flatMap_append]
  simp only [List.flatMap_cons, List.flatMap_nil, List.append_nil, Array.getElem_toList]
  rfl

theorem lt4_letters (k : Int) (i : Nat) (h : i < (lt4 k).size) : ((lt4 k)[i]).toNat = 112 ∨ ((lt4 k)[i]).toNat = 100 ∨ ((lt4 k)[i]).toNat = 97 ∨ ((lt4 k)[i]).toNat = 118 ∨ ((lt4 k)[i]).toNat = 102 ∨ ((lt4 k)[i]).toNat = 115 ∨ ((lt4 k)[i]).toNat = 116 ∨ ((lt4 k)[i]).toNat = 119 ∨ (((lt4 k)[i]).toNat = 111 ∧ k = 6) := by
  have hm : (lt4 k)[i] ∈ (lt4 k).data.toList := by
    show (lt4 k).data[i] ∈ _
    simp
  generalize (lt4 k)[i] = b at hm ⊢
  clear h
  unfold lt4 at hm
  repeat' split at hm
  all_goals (simp at hm)
  all_goals (repeat' (rcases hm with hm | hm))
  all_goals (simp [*])

theorem acB_small (l : List EnD) (h : ∀ x ∈ l, x.id.scheme.size ≤ 24 ∧ x.id.name.size ≤ 24) : (acB l).length ≤ 57 * l.length := by
  induction l with
  | nil => simp [acB]
  | cons x l ih =>
    have e : acB (x :: l) = enB x ++ acB l := by simp [acB]
    have h1 := h x (by simp)
    have h2 := ih (fun y hy => h y (by simp [hy]))
    rw [e, List.length_append, enB, List.length_append, idB, List.length_append, txtB_len, txtB_len]
    simp only [List.length_cons, List.length_nil]
    omega

theorem idsB_small (l : List IdD) (h : ∀ x ∈ l, x.scheme.size ≤ 24 ∧ x.name.size ≤ 24) : (idsB l).length ≤ 56 * l.length := by
  induction l with
  | nil => simp [idsB]
  | cons x l ih =>
    have e : idsB (x :: l) = idB x ++ idsB l := by simp [idsB]
    have h1 := h x (by simp)
    have h2 := ih (fun y hy => h y (by simp [hy]))
    rw [e, List.length_append, idB, List.length_append, txtB_len, txtB_len, List.length_cons]
    omega

theorem encLet_len (inner : Bool) (f : RqF) (more : List Int) (c : Int) (M : Nat) (hM : 1000 ≤ M) (hb : bdOk f = true) (hm : more.length ≤ M) : (encLet inner f more c).length ≤ M := by
  have h := bdOk_inv hb
  have ha := acB_small f.acl h.2.2.2.1
  have hi := idsB_small f.who h.2.2.2.2.2.2.2.2
  have ht := txtB_len f.path
  unfold encLet
  repeat' split
  all_goals (simp [be4, be8]; try omega)

theorem encTo_len (inner : Bool) (f : RqF) (more : List Int) (s : ByteArray) (M : Nat) (hM : 1000 ≤ M) (hb : bdOk f = true) (hm : more.length ≤ M) : ∀ i, i ≤ s.size → (encTo inner f more s i).length ≤ M * i
  | 0, _ => by simp [encTo]
  | i + 1, h => by
    have h1 := encTo_len inner f more s M hM hb hm i (by omega)
    have h2 := encLet_len inner f more ((s[i]).toNat : Int) M hM hb hm
    rw [encTo_next inner f more s i (by omega), List.length_append, Nat.mul_add, Nat.mul_one]
    omega

/-- An inner request's bytes. -/
theorem encTo_in (f : RqF) (n : Nat) (ops : Fin n → Rq) (more : List Int) (h1 : 1 ≤ f.kind) (h5 : f.kind ≤ 5) : [f.kind % 256] ++ encTo true f more (lt4 f.kind) (lt4 f.kind).size = encIn (.mk f n ops) := by
  obtain ⟨kind, path, data, acl, ver, eph, seq, ses, tmo, who⟩ := f
  simp only at h1 h5
  have hk : kind = 1 ∨ kind = 2 ∨ kind = 3 ∨ kind = 4 ∨ kind = 5 := by omega
  rcases hk with rfl | rfl | rfl | rfl | rfl <;> simp [encTo, lt4, encLet, encIn_mk, encP, ByteArray.size]

theorem lt4_six (k : Int) : (lt4 k).size ≤ 6 := by
  unfold lt4
  repeat' split
  all_goals decide

theorem encIn_small (r : Rq) (h : r.inOk = true) : (encIn r).length ≤ 6001 := by
  cases r with
  | mk f n ops =>
    obtain ⟨h1, h5, hb⟩ := inOk_inv h
    have h2 := encTo_len true f [] (lt4 f.kind) 1000 (Nat.le_refl _) hb (by simp) (lt4 f.kind).size (Nat.le_refl _)
    have h3 := lt4_six f.kind
    rw [← encTo_in f n ops [] h1 h5, List.length_append]
    simp only [List.length_cons, List.length_nil]
    omega

theorem opsB_small {n : Nat} (ops : Fin n → Rq) (hok : ∀ i, (ops i).inOk = true) : ∀ k, k ≤ n → (opsB ops k).length ≤ 6001 * k
  | 0, _ => by simp [opsB]
  | k + 1, h => by
    have h1 := opsB_small ops hok k (by omega)
    have h2 := encIn_small (ops ⟨k, by omega⟩) (hok _)
    rw [opsB_next ops k (by omega), List.length_append]
    omega

/-- A transaction's request's bytes. -/
theorem encTo_out (f : RqF) (n : Nat) (ops : Fin n → Rq) (h1 : 1 ≤ f.kind) (h8 : f.kind ≤ 8) : [f.kind % 256] ++ encTo false f (be4 n ++ opsB ops n) (lt4 f.kind) (lt4 f.kind).size = encOut (.mk f n ops) := by
  obtain ⟨kind, path, data, acl, ver, eph, seq, ses, tmo, who⟩ := f
  simp only at h1 h8
  have hk : kind = 1 ∨ kind = 2 ∨ kind = 3 ∨ kind = 4 ∨ kind = 5 ∨ kind = 6 ∨ kind = 7 ∨ kind = 8 := by omega
  rcases hk with rfl | rfl | rfl | rfl | rfl | rfl | rfl | rfl <;> simp [encTo, lt4, encLet, encOut_mk, encP, ByteArray.size]
end Go.Proofs.YtobnggkgpenmfaaGreatDoor

/- Lists that are written over where they lie, each part by one of its form: what a request in memory is then. No Go function is walked here. -/
namespace Go.Proofs.YtobnggkgpenmfaaGreatDoor
open Go.RowKit
set_option maxRecDepth 8000

/-- A value of the same form. -/
inductive FrmV : Value → Value → Prop where
  | same (u : Value) : FrmV u u
  | byte (x y : Int) (h0 : 0 ≤ y) (h1 : y ≤ 255) : FrmV (.int .u8 x) (.int .u8 y)
  | small (x y : Int) (h0 : -128 ≤ y) (h1 : y ≤ 127) : FrmV (.int .i8 x) (.int .i8 y)
  | text (s t : ByteArray) (h : t.size ≤ 140737488355328) : FrmV (.string s) (.string t)

/-- Cells hold values of the same form as before. -/
structure Turns (w w' : World) : Prop where
  cell : ∀ g c u, w.cell? ⟨g, c, none⟩ = some u → ∃ u', w'.cell? ⟨g, c, none⟩ = some u' ∧ FrmV u u'

theorem Turns.refl (w : World) : Turns w w := ⟨fun _ _ u h => ⟨u, h, .same u⟩⟩

theorem Turns.set {w wr : World} (h : Turns w wr) {g c : Nat} {u v : Value} (hc : w.cell? ⟨g, c, none⟩ = some u) (hf : FrmV u v) : Turns w (wr.setCell ⟨g, c, none⟩ v) := by
  refine ⟨fun g' c' u' h' => ?_⟩
  by_cases e : (⟨g, c, none⟩ : Addr) = ⟨g', c', none⟩
  · rw [← e] at h' ⊢
    rw [hc] at h'
    cases h'
    obtain ⟨u1, h1, _⟩ := h.cell g c u hc
    exact ⟨v, World.cell?_setCell_same _ _ _ h1, hf⟩
  · obtain ⟨u1, h1, h2⟩ := h.cell g' c' u' h'
    exact ⟨u1, by rw [World.cell?_setCell_other (h := e)]; exact h1, h2⟩

theorem frm_slice {a : Option Addr} {n c : Nat} {u : Value} (h : FrmV (.slice a n c) u) : u = .slice a n c := by cases h; rfl
theorem frm_bool {b : Bool} {u : Value} (h : FrmV (.bool b) u) : u = .bool b := by cases h; rfl
theorem frm_i32 {x : Int} {u : Value} (h : FrmV (.int .i32 x) u) : u = .int .i32 x := by cases h; rfl
theorem frm_i64 {x : Int} {u : Value} (h : FrmV (.int .i64 x) u) : u = .int .i64 x := by cases h; rfl
theorem frm_i8 {x : Int} {u : Value} (h : FrmV (.int .i8 x) u) (h0 : -128 ≤ x) (h1 : x ≤ 127) : ∃ y, u = .int .i8 y ∧ -128 ≤ y ∧ y ≤ 127 := by
  cases h with
  | same => exact ⟨x, rfl, h0, h1⟩
  | small _ y a b => exact ⟨y, rfl, a, b⟩
theorem frm_u8 {x : Int} {u : Value} (h : FrmV (.int .u8 x) u) (h0 : 0 ≤ x) (h1 : x ≤ 255) : ∃ y, u = .int .u8 y ∧ 0 ≤ y ∧ y ≤ 255 := by
  cases h with
  | same => exact ⟨x, rfl, h0, h1⟩
  | byte _ y a b => exact ⟨y, rfl, a, b⟩
theorem frm_str {s : ByteArray} {u : Value} (h : FrmV (.string s) u) (h0 : s.size ≤ 140737488355328) : ∃ t, u = .string t ∧ t.size ≤ 140737488355328 := by
  cases h with
  | same => exact ⟨s, rfl, h0⟩
  | text _ t a => exact ⟨t, rfl, a⟩

/-- Bytes. -/
theorem Sees.turns {w w' : World} (ht : Turns w w') {v : Value} {xs : List Int} (h : Sees w v xs) (hb : Byts xs) : ∃ ys : List Int, ys.length = xs.length ∧ Byts ys ∧ Sees w' v ys := by
  obtain ⟨ao, cap, rfl, h1, h2, h0, h3⟩ := h
  rcases h3 with rfl | ⟨b, off, rfl, h3⟩
  · exact ⟨[], rfl, hb, ao, cap, rfl, h1, h2, h0, .inl rfl⟩
  have step : ∀ i, ∃ y : Int, i < xs.length → w'.cell? ⟨b, off + i, none⟩ = some (.int .u8 y) ∧ 0 ≤ y ∧ y ≤ 255 := fun i => by
    by_cases hi : i < xs.length
    · obtain ⟨u', a1, a2⟩ := ht.cell _ _ _ (h3 i hi)
      have hx := hb (xs.getD i 0) (by rw [List.getD_eq_getElem?_getD, List.getElem?_eq_getElem hi]; exact List.getElem_mem hi)
      obtain ⟨y, rfl, b0, b1⟩ := frm_u8 a2 hx.1 hx.2
      exact ⟨y, fun _ => ⟨a1, b0, b1⟩⟩
    · exact ⟨0, fun h => absurd h hi⟩
  obtain ⟨f, hf⟩ := Classical.axiomOfChoice step
  refine ⟨(List.range xs.length).map f, by simp, fun y hy => ?_, some ⟨b, off, none⟩, cap, by simp, by simpa using h1, h2, fun e => by simp at e, .inr ⟨b, off, rfl, fun i hi => ?_⟩⟩
  · obtain ⟨i, hi, rfl⟩ := List.mem_map.1 hy
    exact (hf i (List.mem_range.1 hi)).2
  · have hi' : i < xs.length := by simpa using hi
    have e : ((List.range xs.length).map f).getD i 0 = f i := by simp [List.getD_eq_getElem?_getD, hi']
    rw [e]
    exact (hf i hi').1

/-- Elements of z cells. -/
theorem SeesR.turns {w w' : World} (ht : Turns w w') {v : Value} {z : Nat} {cs : List (List Value)} (h : SeesR w v z cs) : ∃ ds : List (List Value), ds.length = cs.length ∧ (∀ i (hi : i < cs.length) (hj : i < ds.length), ds[i].length = z ∧ ∀ j, j < z → FrmV (cs[i].getD j (.bool false)) (ds[i].getD j (.bool false))) ∧ SeesR w' v z ds := by
  obtain ⟨ao, cap, rfl, h1, h2, h0, h3⟩ := h
  rcases h3 with rfl | ⟨b, off, rfl, h3⟩
  · exact ⟨[], rfl, fun i hi => by simp at hi, ao, cap, rfl, h1, h2, h0, .inl rfl⟩
  have step : ∀ p : Nat × Nat, ∃ y : Value, ∀ (hi : p.1 < cs.length), p.2 < z → w'.cell? ⟨b, off + p.1 * z + p.2, none⟩ = some y ∧ FrmV (cs[p.1].getD p.2 (.bool false)) y := fun p => by
    by_cases hi : p.1 < cs.length ∧ p.2 < z
    · obtain ⟨u', a1, a2⟩ := ht.cell _ _ _ (h3 p.1 hi.1 p.2 hi.2)
      exact ⟨u', fun _ _ => ⟨a1, a2⟩⟩
    · exact ⟨.bool false, fun a b => absurd ⟨a, b⟩ hi⟩
  obtain ⟨f, hf⟩ := Classical.axiomOfChoice step
  have hat : ∀ i j, i < cs.length → j < z → (((List.range cs.length).map fun i => (List.range z).map fun j => f (i, j))[i]?.getD []).getD j (.bool false) = f (i, j) := fun i j hi hj => by
    simp [List.getD_eq_getElem?_getD, hi, hj]
  refine ⟨(List.range cs.length).map fun i => (List.range z).map fun j => f (i, j), by simp, fun i hi hj => ⟨by simp, fun j hz => ?_⟩, some ⟨b, off, none⟩, cap, by simp, by simpa using h1, h2, fun e => by simp at e, .inr ⟨b, off, rfl, fun i hi j hj => ?_⟩⟩
  · have e := hat i j hi hz
    rw [List.getElem?_eq_getElem hj, Option.getD_some] at e
    rw [e]
    exact (hf (i, j) hi hz).2
  · have hi' : i < cs.length := by simpa using hi
    have e := hat i j hi' hj
    rw [List.getElem?_eq_getElem hi, Option.getD_some] at e
    rw [e]
    exact (hf (i, j) hi' hj).1

theorem list2 {α : Type} {l : List α} (h : l.length = 2) : ∃ a b, l = [a, b] := by
  match l, h with
  | [a, b], _ => exact ⟨a, b, rfl⟩
theorem list3 {α : Type} {l : List α} (h : l.length = 3) : ∃ a b c, l = [a, b, c] := by
  match l, h with
  | [a, b, c], _ => exact ⟨a, b, c, rfl⟩
theorem list11 {α : Type} {l : List α} (h : l.length = 11) : ∃ a b c d e f g i j k m, l = [a, b, c, d, e, f, g, i, j, k, m] := by
  match l, h with
  | [a, b, c, d, e, f, g, i, j, k, m], _ => exact ⟨a, b, c, d, e, f, g, i, j, k, m, rfl⟩

/-- Entries. -/
theorem acl_turns {w w' : World} (ht : Turns w w') {v : Value} {l : List EnD} (h : SeesR w v 3 (l.map EnD.cells)) (hg : ∀ x ∈ l, -128 ≤ x.perms ∧ x.perms ≤ 127 ∧ x.id.scheme.size ≤ 140737488355328 ∧ x.id.name.size ≤ 140737488355328) :
    ∃ l' : List EnD, l'.length = l.length ∧ (∀ x ∈ l', -128 ≤ x.perms ∧ x.perms ≤ 127 ∧ x.id.scheme.size ≤ 140737488355328 ∧ x.id.name.size ≤ 140737488355328) ∧ SeesR w' v 3 (l'.map EnD.cells) := by
  obtain ⟨ds, hl, he, hs⟩ := h.turns ht
  rw [List.length_map] at hl
  have step : ∀ i, ∃ x : EnD, ∀ (hi : i < ds.length), ds[i] = x.cells ∧ -128 ≤ x.perms ∧ x.perms ≤ 127 ∧ x.id.scheme.size ≤ 140737488355328 ∧ x.id.name.size ≤ 140737488355328 := fun i => by
    by_cases hi : i < ds.length
    · obtain ⟨e1, e2⟩ := he i (by rw [List.length_map]; omega) hi
      obtain ⟨a, b, c, ec⟩ := list3 e1
      rw [ec] at e2
      simp only [List.getElem_map] at e2
      obtain ⟨g0, g1, g2, g3⟩ := hg _ (List.getElem_mem (show i < l.length by omega))
      obtain ⟨x, rfl, x0, x1⟩ := frm_i8 (e2 0 (by omega)) g0 g1
      obtain ⟨s, rfl, s0⟩ := frm_str (e2 1 (by omega)) g2
      obtain ⟨t, rfl, t0⟩ := frm_str (e2 2 (by omega)) g3
      exact ⟨⟨x, ⟨s, t⟩⟩, fun _ => ⟨ec, x0, x1, s0, t0⟩⟩
    · exact ⟨⟨0, ⟨⟨#[]⟩, ⟨#[]⟩⟩⟩, fun h => absurd h hi⟩
  obtain ⟨f, hf⟩ := Classical.axiomOfChoice step
  have e : ds = ((List.range ds.length).map f).map EnD.cells := by
    apply List.ext_getElem
    · simp
    · intro i h1 h2
      simp only [List.getElem_map, List.getElem_range]
      exact (hf i h1).1
  refine ⟨(List.range ds.length).map f, by simp [hl], fun x hx => ?_, by rw [← e]; exact hs⟩
  obtain ⟨i, hi, rfl⟩ := List.mem_map.1 hx
  exact (hf i (List.mem_range.1 hi)).2

/-- Ids. -/
theorem who_turns {w w' : World} (ht : Turns w w') {v : Value} {l : List IdD} (h : SeesR w v 2 (l.map IdD.cells)) (hg : ∀ x ∈ l, x.scheme.size ≤ 140737488355328 ∧ x.name.size ≤ 140737488355328) :
    ∃ l' : List IdD, l'.length = l.length ∧ (∀ x ∈ l', x.scheme.size ≤ 140737488355328 ∧ x.name.size ≤ 140737488355328) ∧ SeesR w' v 2 (l'.map IdD.cells) := by
  obtain ⟨ds, hl, he, hs⟩ := h.turns ht
  rw [List.length_map] at hl
  have step : ∀ i, ∃ x : IdD, ∀ (hi : i < ds.length), ds[i] = x.cells ∧ x.scheme.size ≤ 140737488355328 ∧ x.name.size ≤ 140737488355328 := fun i => by
    by_cases hi : i < ds.length
    · obtain ⟨e1, e2⟩ := he i (by rw [List.length_map]; omega) hi
      obtain ⟨a, b, ec⟩ := list2 e1
      rw [ec] at e2
      simp only [List.getElem_map] at e2
      obtain ⟨g2, g3⟩ := hg _ (List.getElem_mem (show i < l.length by omega))
      obtain ⟨s, rfl, s0⟩ := frm_str (e2 0 (by omega)) g2
      obtain ⟨t, rfl, t0⟩ := frm_str (e2 1 (by omega)) g3
      exact ⟨⟨s, t⟩, fun _ => ⟨ec, s0, t0⟩⟩
    · exact ⟨⟨⟨#[]⟩, ⟨#[]⟩⟩, fun h => absurd h hi⟩
  obtain ⟨f, hf⟩ := Classical.axiomOfChoice step
  have e : ds = ((List.range ds.length).map f).map IdD.cells := by
    apply List.ext_getElem
    · simp
    · intro i h1 h2
      simp only [List.getElem_map, List.getElem_range]
      exact (hf i h1).1
  refine ⟨(List.range ds.length).map f, by simp [hl], fun x hx => ?_, by rw [← e]; exact hs⟩
  obtain ⟨i, hi, rfl⟩ := List.mem_map.1 hx
  exact (hf i (List.mem_range.1 hi)).2

/-- A request in memory is then another one, of as many parts. -/
theorem RqIn.turns {w w' : World} (ht : Turns w w') {F : Nat → Prop} {cs : List Value} {r : Rq} (h : RqIn w F cs r) : r.good → ∀ cs' : List Value, cs'.length = 11 → (∀ j, j < 11 → FrmV (cs.getD j (.bool false)) (cs'.getD j (.bool false))) → ∃ r' : Rq, RqIn w' F cs' r' ∧ r'.good ∧ r'.parts = r.parts := by
  induction h with
  | mk f n ops dv av wv ov oc hd ha hw ho fd fa fw fo _ ih =>
    intro hg cs' hl hc
    obtain ⟨hgf, hn, hgo⟩ := hg
    obtain ⟨c0, c1, c2, c3, c4, c5, c6, c7, c8, c9, c10, rfl⟩ := list11 hl
    have hc' := hc
    clear hl hc
    obtain ⟨data', hdl, hdb, hd'⟩ := hd.turns ht hgf.byts
    obtain ⟨acl', hal, hab, ha'⟩ := acl_turns ht ha hgf.ae
    obtain ⟨who', hwl, hwb, hw'⟩ := who_turns ht hw hgf.we
    obtain ⟨ds, hol, hoe, ho'⟩ := ho.turns ht
    rw [List.length_ofFn] at hol
    have hcl : ∀ i : Fin n, ∃ ri : Rq, RqIn w' F (ds[i.1]'(by omega)) ri ∧ ri.good ∧ ri.parts = (ops i).parts := fun i => by
      obtain ⟨e1, e2⟩ := hoe i.1 (by rw [List.length_ofFn]; exact i.2) (by omega)
      refine ih i (hgo i) _ e1 (fun j hj => ?_)
      have := e2 j hj
      simpa using this
    obtain ⟨opsf, hops⟩ := Classical.axiomOfChoice hcl
    obtain ⟨k', rfl, k0, k1⟩ := frm_i8 (hc' 0 (by omega)) hgf.k0 hgf.k1
    obtain ⟨p', rfl, p0⟩ := frm_str (hc' 1 (by omega)) hgf.pl
    have e2 : c2 = dv := by
      obtain ⟨a, c, rfl, _⟩ := hd
      exact frm_slice (hc' 2 (by omega))
    have e3 : c3 = av := by
      obtain ⟨a, c, rfl, _⟩ := ha
      exact frm_slice (hc' 3 (by omega))
    have e4 : c4 = .int .i32 f.ver := frm_i32 (hc' 4 (by omega))
    have e5 : c5 = .bool f.eph := frm_bool (hc' 5 (by omega))
    have e6 : c6 = .bool f.seq := frm_bool (hc' 6 (by omega))
    have e7 : c7 = .int .i64 f.ses := frm_i64 (hc' 7 (by omega))
    have e8 : c8 = .int .i32 f.tmo := frm_i32 (hc' 8 (by omega))
    have e9 : c9 = wv := by
      obtain ⟨a, c, rfl, _⟩ := hw
      exact frm_slice (hc' 9 (by omega))
    have e10 : c10 = ov := by
      obtain ⟨a, c, rfl, _⟩ := ho
      exact frm_slice (hc' 10 (by omega))
    subst e2 e3 e4 e5 e6 e7 e8 e9 e10
    have hds : ds = List.ofFn fun i : Fin n => ds[i.1]'(by omega) := by
      apply List.ext_getElem
      · simp [hol]
      · intro i h1 h2; simp
    refine ⟨.mk ⟨k', p', data', acl', f.ver, f.eph, f.seq, f.ses, f.tmo, who'⟩ n opsf, ?_, ⟨⟨k0, k1, hgf.v0, hgf.v1, hgf.s0, hgf.s1, hgf.t0, hgf.t1, hdb, p0, by rw [hdl]; exact hgf.dl, by rw [hal]; exact hgf.al, by rw [hwl]; exact hgf.wl, hab, hwb⟩, hn, fun i => (hops i).2.1⟩, ?_⟩
    · rw [hds] at ho'
      exact .mk ⟨k', p', data', acl', f.ver, f.eph, f.seq, f.ses, f.tmo, who'⟩ n opsf _ _ _ _ (fun i : Fin n => ds[i.1]'(by omega)) hd' ha' hw' ho' fd fa fw fo (fun i => (hops i).1)
    · have e : (List.ofFn fun i : Fin n => (opsf i).parts) = List.ofFn fun i : Fin n => (ops i).parts := congrArg List.ofFn (funext fun i => (hops i).2.2)
      show RqF.parts _ + _ = RqF.parts _ + _
      rw [e]
      simp only [RqF.parts, hdl, hal, hwl]
end Go.Proofs.YtobnggkgpenmfaaGreatDoor
