/- A line's words, by the document's own function. -/
import Derived.Test.YtlhpnkgdnmnclaaDoorNum
import Derived.Test.YtlhpnkgdnmnclaaDoorDigits
import Derived.Laws.AppendOwn
namespace Dim
set_option linter.unusedVariables false
/-- A list of bytes as a string. -/
def bs (l : List Int) : ByteArray := ⟨(l.map (fun x => UInt8.ofNat x.toNat)).toArray⟩
theorem bs_size (l : List Int) : (bs l).size = l.length := by simp [bs, ByteArray.size]
theorem blank_ne {x : Int} (h : blank x = false) : (x != 32) = true ∧ (x != 9) = true ∧ (x != 13) = true := by
  unfold blank at h
  cases h1 : (x == 32) <;> cases h2 : (x == 9) <;> cases h3 : (x == 13) <;> simp_all [bne]
theorem blank_is {x : Int} (h : blank x = true) : x = 32 ∨ x = 9 ∨ x = 13 := by
  unfold blank at h
  simp at h
  omega
theorem bs_snoc (l : List Int) (x : Int) : bs (l ++ [x]) = bs l ++ ⟨#[UInt8.ofNat x.toNat]⟩ := by
  unfold bs
  apply ByteArray.ext
  rw [ByteArray.data_append]
  simp
theorem ints_bs (l : List Int) (h : ∀ x ∈ l, 0 ≤ x ∧ x < 256) : ints (bs l) = l := by
  unfold ints bs
  rw [List.toList_toArray, List.map_map]
  conv => rhs; rw [← List.map_id l]
  refine List.map_congr_left fun x hx => ?_
  have := h x hx
  simp [UInt8.toNat_ofNat']
  omega
end Dim
namespace Go.Proofs.YtlhpnkgdnmnclaaDoor
open Go.RowKit
set_option linter.unusedVariables false
set_option linter.unusedSimpArgs false

theorem info9 : (Tryd.prog.info? 9).map (fun i => (i.zero, i.size, i.bytes)) = some (some (.string ⟨#[]⟩), 1, 16) := by kernel_rfl
def strs (ws : List (List Int)) : List Value := ws.map (fun u => .string (Dim.bs u))

theorem bs_nil (l : List Int) : ((Dim.bs l).toList == []) = l.isEmpty := by
  rw [ByteArray.toList_eq]
  unfold Dim.bs
  cases l <;> rfl
theorem one_char (W : World) (tb o c : Nat) (x : Int) (h0 : 0 ≤ x) (h1 : x < 256) (h : W.cell? ⟨tb, o, none⟩ = some (.int .u8 x)) : (convert 22 9 (.slice (some ⟨tb, o, none⟩) 1 c)).run Tryd.prog W = .ok (.string ⟨#[UInt8.ofNat x.toNat]⟩) W := by
  have hb : Lib.BytesIn W (some ⟨tb, o, none⟩) 1 [x] := fun _ => ⟨tb, o, rfl, fun i hi => by
    obtain rfl : i = 0 := by omega
    simpa using h⟩
  rw [hb.convert rfl c 22 5 9 Tryd.underlying22 Tryd.underlying5 Tryd.underlying9]
  have : strOfNums [x] = ⟨#[UInt8.ofNat x.toNat]⟩ := by
    unfold strOfNums
    simp
  rw [this]

theorem wpList_append_run {P : Program} {w w' : World} {ops : Array Oper} {rest : List Oper} {o : Oper} {a : Act} {Q : Exit → Act → World → Prop} (hgd : o.guard = none) (s x : Operand) (t : TypeId)
    (ho : o.op = .call { callee := .builtin .append, args := #[s, x], argTypes := #[t, t] }) {v xv v' : Value} (hs : a.eval s = v) (hx : a.eval x = xv)
    (hrun : (Builtin.append_ #[t, t] o.type #[v, xv]).run P w = .ok v' w') (h : wpList P ops Q rest (a.put o.dst v') w') : wpList P ops Q (o :: rest) a w := by
  refine wpList_plain hgd fun K hK => ?_
  unfold Oper.wp
  simp [execOp, ho, resolve, invoke, builtin, hs, hx, hrun, Result.andThen]
  exact hK _ _ h
theorem own_slc {W : World} {base n e size : Nat} {v : Value} {xs : List Value} (h : W.ownsRow base e size v n xs) : ∃ o c, v = .slice o n c := by
  rcases h.2 with ⟨e1, h0⟩ | ⟨g, c, cur, e1, _⟩
  · exact ⟨none, 0, by rw [e1, h0]⟩
  · exact ⟨_, _, e1⟩
theorem own_base {W : World} {base base' e size : Nat} {v : Value} {n : Nat} {xs : List Value} (h : W.ownsRow base e size v n xs) (hb : base' ≤ base) : W.ownsRow base' e size v n xs := by
  refine ⟨h.1, h.2.imp id ?_⟩
  rintro ⟨g, c, cur, e1, h1, h2⟩
  exact ⟨g, c, cur, e1, by omega, h2⟩
theorem own_set {W : World} {base b k e size : Nat} {v : Value} {n : Nat} {xs : List Value} (h : W.ownsRow base e size v n xs) (hb : b < base) (u : Value) : (W.setCell ⟨b, k, none⟩ u).ownsRow base e size v n xs := by
  refine ⟨h.1, h.2.imp id ?_⟩
  rintro ⟨g, c, cur, e1, h1, h2, h3⟩
  exact ⟨g, c, cur, e1, h1, (heap_other W u (by omega)).trans h2, h3⟩

/-- How the line stands while it is read: Lb is the block of what is told, the block ahead of it the answer's. -/
structure Ln (w : World) (Lb : Nat) (acc : List (List Int)) (o : Option Addr) (cp : Nat) (W : World) : Prop where
  at_ : Lb = w.heap.size + 1
  l : W.heap[Lb]? = some (.cells #[.slice o acc.length cp, .bool false] 69 (0, 0))
  r : W.heap[w.heap.size]? = some (.cells #[.slice none 0 0, .bool false] 69 (0, 0))
  own : W.ownsRow (Lb + 1) 9 1 (.slice o acc.length cp) acc.length (strs acc)
  below : Below w.heap.size w W

theorem Ln.put {w : World} {Lb : Nat} {acc : List (List Int)} {o : Option Addr} {cp : Nat} {W : World} (h : Ln w Lb acc o cp W) (cur : List Int) (hl : acc.length ≤ 200000) :
    ∃ o' cp' B, (Builtin.append_ #[47, 47] 47 #[.slice o acc.length cp, .slice (some ⟨W.heap.size, 0, none⟩) 1 1]).run Tryd.prog (W.alloc (.cells #[.string (Dim.bs cur)] 9)) = .ok (.slice o' (acc.length + 1) cp') B ∧
      B.heap[Lb]? = some (.cells #[.slice o acc.length cp, .bool false] 69 (0, 0)) ∧ Ln w Lb (acc ++ [cur]) o' cp' (B.setCell ⟨Lb, 0, none⟩ (.slice o' (acc.length + 1) cp')) := by
  obtain ⟨i0, hi, hz⟩ := Option.map_eq_some_iff.1 info9
  simp only [Prod.mk.injEq] at hz
  obtain ⟨hz0, hz1, hz2⟩ := hz
  have hLs := (Array.getElem?_eq_some_iff.1 h.l).1
  obtain ⟨W1, hW1⟩ : ∃ W1, W.alloc (.cells #[.string (Dim.bs cur)] 9) = W1 := ⟨_, rfl⟩
  have hM : W1.heap[W.heap.size]? = some (.cells #[.string (Dim.bs cur)] 9 (0, 0)) := by rw [← hW1]; exact World.alloc_heap_new _ _
  have h01 : Below W.heap.size W W1 := by rw [← hW1]; exact below_box _ _
  have hs1 : W1.heap.size = W.heap.size + 1 := by rw [← hW1]; simp
  have ho1 : W1.ownsRow (Lb + 1) 9 1 (.slice o acc.length cp) acc.length (strs acc) := by rw [← hW1]; exact h.own.alloc _
  rw [hW1]
  obtain ⟨v2, B, hr, ho2, hg, _⟩ := run_append_own (P := Tryd.prog) W1 (Lb + 1) 47 47 9 i0 (.string ⟨#[]⟩) 1 16 Tryd.underlying47 hi hz0 hz1 hz2 rfl (by decide) (.slice o acc.length cp) acc.length (strs acc) ho1 ⟨W.heap.size, 0, none⟩ 1 1 [.string (Dim.bs cur)] rfl (fun j u hu => by
    cases j with
    | zero => simp at hu; subst hu; rw [show (⟨W.heap.size, 0, none⟩ : Addr).add 0 = ⟨W.heap.size, 0, none⟩ from rfl, row_cell hM 0]; rfl
    | succ j => simp at hu) (by simp [Value.oneCell']) (by simp [maxLen]; omega) (by omega) (by omega)
  obtain ⟨o', cp', rfl⟩ := own_slc ho2
  have hvn : ∀ k, (Value.slice o acc.length cp).ownBlock = some k → Lb + 1 ≤ k := fun k hk => by
    rcases ho1.2 with ⟨e, _⟩ | ⟨g, cp1, cur1, e1, h1, _⟩
    · rw [e] at hk; simp [Value.ownBlock] at hk
    · rw [e1] at hk; simp [Value.ownBlock] at hk; omega
  have hat := h.at_
  have hB : ∀ k, k ≤ Lb → B.heap[k]? = W.heap[k]? := fun k hk => (hg.block k (by omega) (fun e => by have := hvn k e.symm; omega)).trans (h01.block k (by omega))
  have hbl : Below w.heap.size w B := (h.below.trans (h01.mono (by omega))).grown hg (by omega) (fun k hk => by have := hvn k hk; omega)
  refine ⟨o', cp', B, hr, (hB Lb (Nat.le_refl _)).trans h.l, hat, ?_, ?_, ?_, hbl.setCell (by dsimp only; omega) _⟩
  · have := heap_set_row (k := 0) ((hB Lb (Nat.le_refl _)).trans h.l) (.slice o' (acc.length + 1) cp')
    rw [List.length_append]
    exact this
  · exact (heap_other _ _ (by omega)).trans ((hB _ (by omega)).trans h.r)
  · have := own_set (b := Lb) (k := 0) ho2 (by omega) (.slice o' (acc.length + 1) cp')
    rw [List.length_append, show strs (acc ++ [cur]) = strs acc ++ [.string (Dim.bs cur)] by simp [strs]]
    exact this

set_option maxRecDepth 100000 in
set_option maxHeartbeats 8000000 in
theorem line42 (tb : Nat) (p : Option Addr) (n c : Nat) (xs : List Int) (w : World) (hn : xs.length = n) (hx : Txt tb w p c xs) (htb : tb < w.heap.size) (hnb : n ≤ 100000) :
    Calls Tryd.prog 42 #[.slice p n c] w fun e w' => ∃ v, e = .returned (.agg #[v, .bool (Dim.remark xs)]) ∧ w'.ownsRow w.heap.size 9 1 v (Dim.words xs).length (strs (Dim.words xs)) ∧ Below w.heap.size w w' := by
  have HX := hid hx
  have HN := hid hn
  cases hrem : Dim.remark xs
  case true =>
    obtain ⟨o, rfl, hc0, _, _⟩ := HX.out.at (i := 0) (by
      cases xs with
      | nil => simp [Dim.remark] at hrem
      | cons y ys => simp)
    have h99 : xs.getD 0 0 = 99 := by
      cases xs with
      | nil => simp [Dim.remark] at hrem
      | cons y ys => simpa [Dim.remark] using hrem
    rw [h99, Nat.add_zero] at hc0
    have hc1 := ((below_box w (.cells #[.slice none 0 0, .bool false] 69)).cell (p := ⟨tb, o, none⟩) htb).trans hc0
    have hpos : (0 : Int) < n := by
      have : 0 < xs.length := by
        cases xs with
        | nil => simp [Dim.remark] at hrem
        | cons y ys => simp
      omega
    have hw0 : Dim.words xs = [] := by unfold Dim.words; rw [hrem]; rfl
    rw [hw0]
    clear hx hn HX HN
    go_enter Tryd.func42, Tryd.ntmps42
    go_wp2
    refine bodyPost_ret (results_cell_row rfl _ _ w.heap.size 69 #[.slice none 0 0, .bool true] (0, 0) _ rfl (World.alloc_heap_new w _) Tryd.underlying69 rfl (by kernel_rfl)) rfl ?_
    exact ⟨_, rfl, World.ownsRow_nil _ _ _ _, below_box _ _⟩
  case false =>
    have hnr : Hid (n = 0 ∨ ∃ o z, p = some ⟨tb, o, none⟩ ∧ (0 : Int) < n ∧ w.cell? ⟨tb, o, none⟩ = some (.int .u8 z) ∧ (z == 99) = false) := hid (by
      rcases Nat.eq_zero_or_pos n with h | h
      · exact .inl h
      · obtain ⟨o, e, hc0, _, _⟩ := HX.out.at (i := 0) (by rw [HN.out]; exact h)
        refine .inr ⟨o, xs.getD 0 0, e, by omega, by simpa using hc0, ?_⟩
        cases xs with
        | nil => have := HN.out; simp at this; omega
        | cons y ys => simpa [Dim.remark] using hrem)
    have hw0 : Dim.words xs = Dim.wordsGo [] xs := by unfold Dim.words; rw [hrem]; rfl
    rw [hw0]
    obtain ⟨ws, hws⟩ : ∃ ws, Dim.wordsGo [] xs = ws := ⟨_, rfl⟩
    rw [hws]
    have HWS := hid hws
    have hcn : n ≤ c := by have := hx.2.1; omega
    have hcm : (c : Int) ≤ 9223372036854775807 := by have := hx.2.2.1.2; omega
    have hln0 : Ln w (w.heap.size + 1) [] none 0 ((w.alloc (.cells #[.slice none 0 0, .bool false] 69)).alloc (.cells #[.slice none 0 0, .bool false] 69)) := by
      refine ⟨rfl, ?_, ?_, World.ownsRow_nil _ _ _ _, ((Below.refl _ w).alloc (Nat.le_refl _) _).alloc (by simp) _⟩
      · have := World.alloc_heap_new (w.alloc (.cells #[.slice none 0 0, .bool false] 69)) (.cells #[.slice none 0 0, .bool false] 69)
        simpa using this
      · rw [Below.heap_alloc _ _ _ (by simp)]
        exact World.alloc_heap_new w _
    have HLN0 := hid hln0
    clear hw0 hws hx hn hrem hln0
    rcases hnr.out with h0 | ⟨o, z, hp, hpos, hcz, hz⟩
    case' inl =>
      have hn0 : ¬ (0 : Int) < n := by omega
      clear hnr
      go_enter Tryd.func42, Tryd.ntmps42
      go_wp2
      clear hn0
    case' inr =>
      subst hp
      have hcz1 := ((below_box w (.cells #[.slice none 0 0, .bool false] 69)).cell (p := ⟨tb, o, none⟩) htb).trans hcz
      clear hnr hcz
      go_enter Tryd.func42, Tryd.ntmps42
      go_wp2
      clear hcz1 hz
    case inl =>
      go_loopw [4, 5] (fun sv i wr => ∃ (k : Nat) (S : ByteArray) (cur : List Int) (acc : List (List Int)) (oo : Option Addr) (cp : Nat), i = .int .i64 k ∧ sv = .string S ∧ k ≤ n + 1 ∧ S.size ≤ k ∧ acc.length ≤ k ∧ Hid (S = Dim.bs cur) ∧ Hid ((k ≤ n → acc ++ Dim.wordsGo cur (xs.drop k) = ws) ∧ (k = n + 1 → acc = ws)) ∧ Hid (Ln w (w.heap.size + 1) acc oo cp wr)) (fun _ i _ => n + 1 - (intOf i).toNat)
      case atStart => exact ⟨0, ⟨#[]⟩, [], [], none, 0, rfl, rfl, by omega, by simp [ByteArray.size], by simp, hid rfl, hid ⟨fun _ => by simpa using HWS.out, fun h => by omega⟩, HLN0⟩
      case round =>
        clear HLN0
        obtain ⟨k, S, cur, acc, oo, cp, rfl, rfl, hk, hSk, hak, HS, HW, HL⟩ := hrel
        by_cases hk2 : k = n
        · have hkn1 : (k : Int) ≤ n := by omega
          have hkn2 : ¬ (k : Int) < n := by omega
          have HD := hid (show xs.drop k = [] from List.drop_eq_nil_of_le (by rw [HN.out]; omega))
          by_cases hcur : cur = []
          · subst hcur
            have hnil : (S.toList == []) = true := by rw [HS.out, bs_nil]; rfl
            have HG := hid (show acc = ws by have := HW.out.1 (by omega); rwa [HD.out, Dim.wordsGo_end0, List.append_nil] at this)
            go_wp2
            go_roundw
            case rel => exact ⟨k + 1, ⟨#[]⟩, [], acc, oo, cp, by go_num, rfl, by omega, by simp [ByteArray.size], by omega, hid rfl, hid ⟨fun h => by omega, fun _ => HG.out⟩, HL⟩
            case measure => simp [intOf]; omega
          · have hnil : (S.toList == []) = false := by rw [HS.out, bs_nil]; cases cur with
              | nil => exact absurd rfl hcur
              | cons _ _ => rfl
            have HG := hid (show acc ++ [cur] = ws by have := HW.out.1 (by omega); rwa [HD.out, Dim.wordsGo_end _ hcur] at this)
            obtain ⟨o', cp', B, hr, hBl, hLn⟩ := HL.out.put cur (by omega)
            rw [← HS.out] at hr
            have c1 := row_cell HL.out.l 0
            have d1 := row_cell hBl 0
            have d2 := row_frozen hBl 0
            simp only [List.getElem?_toArray, List.getElem?_cons_zero] at c1 d1
            have HR := hid hr
            have HLN := hid hLn
            have D1 := hid d1
            have D2 := hid d2
            have HLA := hid (show (acc ++ [cur]).length ≤ k + 1 by simp; omega)
            clear HD hr hLn hBl d1 d2 hcur
            generalize hal : acc.length = al at c1 HR D1 hak
            go_wp2_with (first
              | (at_builtin; refine wpList_append_run rfl (.tmp 58) (.tmp 60) 47 rfl rfl rfl HR.out ?_; have d1 := D1.out; have d2 := D2.out; clear c1))
            go_roundw
            case rel => exact ⟨k + 1, ⟨#[]⟩, [], acc ++ [cur], o', cp', by go_num, rfl, by omega, by simp [ByteArray.size], HLA.out, hid rfl, hid ⟨fun h => by omega, fun _ => HG.out⟩, by rw [hal] at HLN; exact HLN⟩
            case measure => simp [intOf]; omega
        · have hkn1 : ¬ (k : Int) ≤ n := by omega
          have HA := hid (HW.out.2 (by omega))
          have c0 := row_cell HL.out.l 0
          have c1 := row_cell HL.out.l 1
          have r0 := row_cell HL.out.r 0
          have r1 := row_cell HL.out.r 1
          simp only [List.getElem?_toArray, List.getElem?_cons_zero, List.getElem?_cons_succ] at c0 c1 r0 r1
          have f0 := row_frozen HL.out.r 0
          have f1 := row_frozen HL.out.r 1
          go_wp2
          refine bodyPost_ret (results_cell_row rfl _ _ w.heap.size 69 #[.slice oo acc.length cp, .bool false] (0, 0) _ rfl (heap_set_row (heap_set_row HL.out.r _) _) Tryd.underlying69 rfl (by kernel_rfl)) rfl ?_
          refine ⟨_, rfl, ?_, (HL.out.below.setCell (Nat.le_refl _) _).setCell (Nat.le_refl _) _⟩
          rw [← HA.out]
          exact own_base (own_set (own_set HL.out.own (by omega) _) (by omega) _) (by omega)
    case inr =>
      go_loopw [4, 5] (fun sv i wr => ∃ (k : Nat) (S : ByteArray) (cur : List Int) (acc : List (List Int)) (oo : Option Addr) (cp : Nat), i = .int .i64 k ∧ sv = .string S ∧ k ≤ n + 1 ∧ S.size ≤ k ∧ acc.length ≤ k ∧ Hid (S = Dim.bs cur) ∧ Hid ((k ≤ n → acc ++ Dim.wordsGo cur (xs.drop k) = ws) ∧ (k = n + 1 → acc = ws)) ∧ Hid (Ln w (w.heap.size + 1) acc oo cp wr)) (fun _ i _ => n + 1 - (intOf i).toNat)
      case atStart => exact ⟨0, ⟨#[]⟩, [], [], none, 0, rfl, rfl, by omega, by simp [ByteArray.size], by simp, hid rfl, hid ⟨fun _ => by simpa using HWS.out, fun h => by omega⟩, HLN0⟩
      case round =>
        clear HLN0
        obtain ⟨k, S, cur, acc, oo, cp, rfl, rfl, hk, hSk, hak, HS, HW, HL⟩ := hrel
        by_cases hkn : k < n
        · have hkn1 : (k : Int) ≤ n := by omega
          have hkn2 : (k : Int) < n := by omega
          obtain ⟨o2, e2, hcy, hly, huy⟩ := HX.out.at (i := k) (by rw [HN.out]; exact hkn)
          cases e2
          have HD := hid (Dim.drop_at xs k (by rw [HN.out]; exact hkn))
          have hcc := (HL.out.below.cell (p := ⟨tb, o + k, none⟩) htb).trans hcy
          generalize xs.getD k 0 = x at hcc hly huy HD
          clear hcy
          cases hb : Dim.blank x
          · obtain ⟨q1, q2, q3⟩ := Dim.blank_ne hb
            have HB := hid hb
            clear hb
            have cv := one_char wr tb (o + k) (c - k) x hly huy hcc
            have hck : ¬ c = k := by omega
            have hSs : (S.size : Int) ≤ 100001 := by omega
            go_wp2
            go_roundw
            case rel => exact ⟨k + 1, S ++ ⟨#[UInt8.ofNat x.toNat]⟩, cur ++ [x], acc, oo, cp, by go_num, rfl, by omega, by rw [ByteArray.size_append]; show S.size + 1 ≤ k + 1; omega, by omega, hid (by rw [Dim.bs_snoc, HS.out]), hid ⟨fun _ => by rw [← Dim.wordsGo_on _ _ _ HB.out, ← HD.out]; exact HW.out.1 (by omega), fun h => by omega⟩, HL⟩
            case measure => simp [intOf]; omega
          · have HB := hid hb
            have hbi := Dim.blank_is hb
            clear hb
            by_cases hcur : cur = []
            · subst hcur
              have hnil : (S.toList == []) = true := by rw [HS.out, bs_nil]; rfl
              have HG := hid (show acc ++ Dim.wordsGo [] (xs.drop (k + 1)) = ws by rw [← Dim.wordsGo_blank0 _ _ HB.out, ← HD.out]; exact HW.out.1 (by omega))
              clear HB HD
              rcases hbi with rfl | rfl | rfl
              all_goals
                go_wp2
                go_roundw
                case rel => exact ⟨k + 1, ⟨#[]⟩, [], acc, oo, cp, by go_num, rfl, by omega, by simp [ByteArray.size], by omega, hid rfl, hid ⟨fun _ => HG.out, fun h => by omega⟩, HL⟩
                case measure => simp [intOf]; omega
            · have hnil : (S.toList == []) = false := by rw [HS.out, bs_nil]; cases cur with
                | nil => exact absurd rfl hcur
                | cons _ _ => rfl
              have HG := hid (show (acc ++ [cur]) ++ Dim.wordsGo [] (xs.drop (k + 1)) = ws by rw [List.append_assoc, List.singleton_append, ← Dim.wordsGo_blank _ _ _ HB.out hcur, ← HD.out]; exact HW.out.1 (by omega))
              obtain ⟨o', cp', B, hr, hBl, hLn⟩ := HL.out.put cur (by omega)
              rw [← HS.out] at hr
              have c1 := row_cell HL.out.l 0
              have d1 := row_cell hBl 0
              have d2 := row_frozen hBl 0
              simp only [List.getElem?_toArray, List.getElem?_cons_zero] at c1 d1
              have HR := hid hr
              have HLN := hid hLn
              have D1 := hid d1
              have D2 := hid d2
              have HLA := hid (show (acc ++ [cur]).length ≤ k + 1 by simp; omega)
              clear HB HD hr hLn hBl d1 d2 hcur
              generalize hal : acc.length = al at c1 HR D1 hak
              rcases hbi with rfl | rfl | rfl
              all_goals
                go_wp2_with (first
                  | (at_builtin; refine wpList_append_run rfl (.tmp 58) (.tmp 60) 47 rfl rfl rfl HR.out ?_; have d1 := D1.out; have d2 := D2.out; clear c1))
                go_roundw
                case rel => exact ⟨k + 1, ⟨#[]⟩, [], acc ++ [cur], o', cp', by go_num, rfl, by omega, by simp [ByteArray.size], HLA.out, hid rfl, hid ⟨fun _ => HG.out, fun h => by omega⟩, by rw [hal] at HLN; exact HLN⟩
                case measure => simp [intOf]; omega
        · by_cases hk2 : k = n
          · have hkn1 : (k : Int) ≤ n := by omega
            have hkn2 : ¬ (k : Int) < n := by omega
            have HD := hid (show xs.drop k = [] from List.drop_eq_nil_of_le (by rw [HN.out]; omega))
            by_cases hcur : cur = []
            · subst hcur
              have hnil : (S.toList == []) = true := by rw [HS.out, bs_nil]; rfl
              have HG := hid (show acc = ws by have := HW.out.1 (by omega); rwa [HD.out, Dim.wordsGo_end0, List.append_nil] at this)
              go_wp2
              go_roundw
              case rel => exact ⟨k + 1, ⟨#[]⟩, [], acc, oo, cp, by go_num, rfl, by omega, by simp [ByteArray.size], by omega, hid rfl, hid ⟨fun h => by omega, fun _ => HG.out⟩, HL⟩
              case measure => simp [intOf]; omega
            · have hnil : (S.toList == []) = false := by rw [HS.out, bs_nil]; cases cur with
                | nil => exact absurd rfl hcur
                | cons _ _ => rfl
              have HG := hid (show acc ++ [cur] = ws by have := HW.out.1 (by omega); rwa [HD.out, Dim.wordsGo_end _ hcur] at this)
              obtain ⟨o', cp', B, hr, hBl, hLn⟩ := HL.out.put cur (by omega)
              rw [← HS.out] at hr
              have c1 := row_cell HL.out.l 0
              have d1 := row_cell hBl 0
              have d2 := row_frozen hBl 0
              simp only [List.getElem?_toArray, List.getElem?_cons_zero] at c1 d1
              have HR := hid hr
              have HLN := hid hLn
              have D1 := hid d1
              have D2 := hid d2
              have HLA := hid (show (acc ++ [cur]).length ≤ k + 1 by simp; omega)
              clear HD hr hLn hBl d1 d2 hcur
              generalize hal : acc.length = al at c1 HR D1 hak
              go_wp2_with (first
                | (at_builtin; refine wpList_append_run rfl (.tmp 58) (.tmp 60) 47 rfl rfl rfl HR.out ?_; have d1 := D1.out; have d2 := D2.out; clear c1))
              go_roundw
              case rel => exact ⟨k + 1, ⟨#[]⟩, [], acc ++ [cur], o', cp', by go_num, rfl, by omega, by simp [ByteArray.size], HLA.out, hid rfl, hid ⟨fun h => by omega, fun _ => HG.out⟩, by rw [hal] at HLN; exact HLN⟩
              case measure => simp [intOf]; omega
          · have hkn1 : ¬ (k : Int) ≤ n := by omega
            have HA := hid (HW.out.2 (by omega))
            have c0 := row_cell HL.out.l 0
            have c1 := row_cell HL.out.l 1
            have r0 := row_cell HL.out.r 0
            have r1 := row_cell HL.out.r 1
            simp only [List.getElem?_toArray, List.getElem?_cons_zero, List.getElem?_cons_succ] at c0 c1 r0 r1
            have f0 := row_frozen HL.out.r 0
            have f1 := row_frozen HL.out.r 1
            go_wp2
            refine bodyPost_ret (results_cell_row rfl _ _ w.heap.size 69 #[.slice oo acc.length cp, .bool false] (0, 0) _ rfl (heap_set_row (heap_set_row HL.out.r _) _) Tryd.underlying69 rfl (by kernel_rfl)) rfl ?_
            refine ⟨_, rfl, ?_, (HL.out.below.setCell (Nat.le_refl _) _).setCell (Nat.le_refl _) _⟩
            rw [← HA.out]
            exact own_base (own_set (own_set HL.out.own (by omega) _) (by omega) _) (by omega)
end Go.Proofs.YtlhpnkgdnmnclaaDoor
