/- The arena, plainly: clauses one behind the other, each with the words that it takes. -/
namespace Arn
structure It where
  room : Nat
  id : Int
  lits : List Int
  red : Bool
  lbd : Int
  used : Int
  dead : Bool
/-- The word of 32 bits. -/
def u32 (x : Int) : Int := x % 4294967296
def It.head (x : It) : Int := 4 * x.lits.length + (if x.red then 2 else 0) + (if x.dead then 1 else 0)
def It.cells (x : It) : List Int := x.head :: u32 x.id :: x.id / 4294967296 :: (x.lbd * 65536 + x.used) :: (x.lits.map u32 ++ List.replicate (x.room - 4 - x.lits.length) 0)
structure It.ok (x : It) : Prop where
  fits : 4 + x.lits.length ≤ x.room
  id1 : 1 ≤ x.id
  id2 : x.id ≤ 4611686018427387903
  lbd1 : 0 ≤ x.lbd
  lbd2 : x.lbd ≤ 65535
  used1 : 0 ≤ x.used
  used2 : x.used ≤ 65535
  lits : ∀ l ∈ x.lits, -2147483648 ≤ l ∧ l ≤ 2147483647
def size : List It → Nat
  | [] => 0
  | x :: M => x.room + size M
def row : List It → List Int
  | [] => []
  | x :: M => x.cells ++ row M
/-- The words that no clause has. -/
def It.lost (x : It) : Nat := if x.dead then x.room else x.room - 4 - x.lits.length
def waste : List It → Nat
  | [] => 0
  | x :: M => x.lost + waste M
/-- The clause that begins at a place, dead or not. -/
def at? : List It → Int → Option It
  | [], _ => none
  | x :: M, r => if r = 0 then some x else at? M (r - x.room)
/-- The clause that lives there. -/
def find (M : List It) (r : Int) : Option It := (at? M r).filter (fun x => !x.dead)
def upd : List It → Int → It → List It
  | [], _, _ => []
  | x :: M, r, y => if r = 0 then y :: M else x :: upd M (r - x.room) y
/-- Where those begin that live. -/
def refs : List It → Int → List Int
  | [], _ => []
  | x :: M, o => if x.dead then refs M (o + x.room) else o :: refs M (o + x.room)
/-- What is left of them, put together. -/
def It.tight (x : It) : It := { x with room := 4 + x.lits.length }
def collect (M : List It) : List It := (M.filter (fun x => !x.dead)).map It.tight
def Oks (M : List It) : Prop := ∀ x ∈ M, x.ok

theorem getD_mem (xs : List Int) (k : Nat) (h : k < xs.length) : xs.getD k 0 ∈ xs := by simp [List.getD, List.getElem?_eq_getElem h]
theorem It.ok.len {x : It} (h : x.ok) : x.cells.length = x.room := by
  have := h.fits
  simp [It.cells]; omega
theorem Oks.cons {x : It} {M : List It} (h : Oks (x :: M)) : x.ok ∧ Oks M := ⟨h x (by simp), fun y hy => h y (by simp [hy])⟩
theorem row_len {M : List It} (h : Oks M) : (row M).length = size M := by
  induction M with
  | nil => rfl
  | cons x M ih => rw [row, List.length_append, h.cons.1.len, ih h.cons.2, size]
theorem row_append (A B : List It) : row (A ++ B) = row A ++ row B := by
  induction A with
  | nil => rfl
  | cons x A ih => simp [row, ih]
theorem size_append (A B : List It) : size (A ++ B) = size A + size B := by
  induction A with
  | nil => simp [size]
  | cons x A ih => simp [size, ih]; omega
theorem waste_append (A B : List It) : waste (A ++ B) = waste A + waste B := by
  induction A with
  | nil => simp [waste]
  | cons x A ih => simp [waste, ih]; omega
theorem Oks.left {A B : List It} (h : Oks (A ++ B)) : Oks A := fun x hx => h x (by simp [hx])
theorem Oks.right {A B : List It} (h : Oks (A ++ B)) : Oks B := fun x hx => h x (by simp [hx])
theorem at_split {M : List It} {r : Int} {x : It} (h : at? M r = some x) : ∃ A B, M = A ++ x :: B ∧ r = size A := by
  induction M generalizing r with
  | nil => cases h
  | cons y M ih =>
    unfold at? at h
    by_cases e : r = 0
    · rw [if_pos e] at h
      cases h
      exact ⟨[], M, rfl, by simp [size, e]⟩
    · rw [if_neg e] at h
      obtain ⟨A, B, rfl, hr⟩ := ih h
      exact ⟨y :: A, B, rfl, by simp [size]; omega⟩
theorem at_mid {A : List It} (h : Oks A) (x : It) (B : List It) : at? (A ++ x :: B) (size A) = some x := by
  induction A with
  | nil => simp [at?, size]
  | cons y A ih =>
    have := h.cons.1.fits
    rw [List.cons_append, at?, if_neg (by simp [size]; omega), show ((size (y :: A) : Nat) : Int) - y.room = size A by simp [size]; omega]
    exact ih h.cons.2
theorem at_lt {M : List It} (hM : Oks M) {r : Int} {x : It} (h : at? M r = some x) : 0 ≤ r ∧ r + x.room ≤ size M ∧ x.ok := by
  obtain ⟨A, B, rfl, rfl⟩ := at_split h
  rw [size_append, size]
  exact ⟨by omega, by omega, hM x (by simp)⟩
theorem at_append {A : List It} (hA : Oks A) (B : List It) (r : Int) : at? (A ++ B) r = if r < size A then at? A r else at? B (r - size A) := by
  induction A generalizing r with
  | nil =>
    rw [List.nil_append, show ((size [] : Nat) : Int) = 0 from rfl]
    by_cases h : r < 0
    · rw [if_pos h]
      have : ∀ (B : List It) (r : Int), r < 0 → at? B r = none := by
        intro B
        induction B with
        | nil => intros; rfl
        | cons x B ih => intro r hr; rw [at?, if_neg (by omega)]; exact ih _ (by omega)
      rw [this _ _ h]
      rfl
    · rw [if_neg h, Int.sub_zero]
  | cons y A ih =>
    have := hA.cons.1.fits
    rw [List.cons_append, at?, at?]
    by_cases e : r = 0
    · rw [if_pos e, if_pos (by simp [size]; omega), if_pos e]
    · rw [if_neg e, if_neg e, ih hA.cons.2, show ((size (y :: A) : Nat) : Int) = y.room + size A by simp [size]]
      by_cases h2 : r - y.room < size A
      · rw [if_pos h2, if_pos (by omega)]
      · rw [if_neg h2, if_neg (by omega)]
        congr 1
        omega
theorem upd_mid {A : List It} (h : Oks A) (x y : It) (B : List It) : upd (A ++ x :: B) (size A) y = A ++ y :: B := by
  induction A with
  | nil => simp [upd, size]
  | cons z A ih =>
    have := h.cons.1.fits
    rw [List.cons_append, upd, if_neg (by simp [size]; omega), show ((size (z :: A) : Nat) : Int) - z.room = size A by simp [size]; omega, ih h.cons.2]
    rfl
theorem find_some {M : List It} {r : Int} {x : It} : find M r = some x ↔ at? M r = some x ∧ x.dead = false := by
  unfold find
  rw [Option.filter_eq_some_iff]
  simp
/-- The words of the row at a clause. -/
theorem row_at {M : List It} (hM : Oks M) {r : Int} {x : It} (h : at? M r = some x) (k : Nat) (hk : k < x.room) : (row M).getD (r.toNat + k) 0 = x.cells.getD k 0 := by
  obtain ⟨A, B, rfl, rfl⟩ := at_split h
  have hx := hM x (by simp)
  rw [row_append, row]
  simp only [List.getD, Int.toNat_natCast]
  rw [List.getElem?_append_right (by rw [row_len hM.left]; omega), row_len hM.left, show size A + k - size A = k by omega, List.getElem?_append_left (by rw [hx.len]; exact hk)]
end Arn
